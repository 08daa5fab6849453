/- The document's comparing of lists of options. -/
import Derived.Test.YtaalbjbocbagcaaDoorOptA
namespace Go.Proofs.YtaalbjbocbagcaaDoor
open Go.RowKit
theorem opt_quiet {w w' : World} {b off : Nat} {u : Value} (h : w.cell? ⟨b, off, none⟩ = some u) (k : Keeps nobody w w') : w'.cell? ⟨b, off, none⟩ = some u :=
  (World.cell?_of_block (w := w) (a := ⟨b, off, none⟩) (k.block b (cell_lt h) (fun x => x))).trans h
abbrev optsOf (ps : List (Value × Pure.Opt)) : List Pure.Opt := ps.map Prod.snd
set_option maxRecDepth 100000 in
set_option maxHeartbeats 4000000 in
theorem docopts_same (F G : Nat → Prop) (x y : Value) (ps qs : List (Value × Pure.Opt)) (w : World) (hx : ORow w F x ps) (hy : ORow w G y qs) :
    Calls Tryd.prog 21 #[x, y] w fun e w' => e = .returned (.bool (decide (optsOf ps = optsOf qs))) ∧ Keeps nobody w w' := by
  obtain ⟨A, cA, rfl, hc⟩ := hx.form
  obtain ⟨B, cB, rfl, hd⟩ := hy.form
  have hm := hx.out.2.1
  have hm2 := hy.out.2.1
  unfold maxLen at hm hm2
  have HX := Lib.hid hx
  have HY := Lib.hid hy
  clear hx hy
  by_cases hl : ps.length = qs.length
  · have e1 : ((ps.length : Int) != (qs.length : Int)) = false := by rw [hl]; simp
    have HL := Lib.hid hl
    rw [← hl] at HY ⊢
    rw [← hl] at e1
    clear hl hm2
    go_enter Tryd.func21, Tryd.ntmps21
    go_wp2
    clear e1
    go_loopw [5] (fun i wr => ∃ k : Nat, k ≤ ps.length ∧ i = .int .i64 (k : Int) ∧ (optsOf ps).take k = (optsOf qs).take k ∧ Keeps nobody w wr) (fun i _ => ps.length - (intOf i).toNat)
    case atStart => exact ⟨0, by omega, rfl, by simp, Keeps.refl _ _⟩
    case round =>
      obtain ⟨k, hk, rfl, hT, hK⟩ := hrel
      have HT := Lib.hid hT
      have HK := Lib.hid hK
      by_cases hkl : k < ps.length
      · have i0 : (0 : Int) ≤ (k : Int) := by omega
        have i1 : (k : Int) < (ps.length : Int) := by omega
        have hkq : k < qs.length := by have := HL.out; omega
        obtain ⟨p, o, A1, c1, s, la, rfl, hFp, x0, x1, hra, hpa⟩ := (HX.out.keeps hK (fun _ _ h => h)).pick k hkl
        obtain ⟨q, o2, A2, c2, t, lb, rfl, hGq, y0, y1, hrb, hqb⟩ := (HY.out.keeps hK (fun _ _ h => h)).pick k hkq
        have HRA := Lib.hid hra
        have HRB := Lib.hid hrb
        have HPA := Lib.hid hpa
        have HQB := Lib.hid hqb
        clear hT hK hra hrb hpa hqb
        go_upto_region 6 with fail
        refine wp_region_Z (fun w' => w'.cell? ⟨p, o + k * 2, none⟩ = some (.int .i64 s) ∧ w'.cell? ⟨p, o + k * 2 + 1, none⟩ = some (.slice A1 la.length c1) ∧ w'.cell? ⟨q, o2 + k * 2, none⟩ = some (.int .i64 t) ∧ w'.cell? ⟨q, o2 + k * 2 + 1, none⟩ = some (.slice A2 lb.length c2)) 9 10 rfl (by kernel_rfl) ⟨x0, x1, y0, y1⟩ (fun hHeld => ?_)
        refine wpAnyZ_take (i := 0) rfl (by kernel_rfl) (fun _ _ _ h => h) (Or.inl ⟨by rfl, by intro w hSw; obtain ⟨s0, s1, s2, s3⟩ := hSw; go_simp; try with_reducible rfl⟩) hHeld.out ?_
        simp only [Act.put, List.setIfInBounds_toArray, Nat.reduceAdd, List.getElem_toArray, List.getElem_cons_succ, List.getElem_cons_zero, List.set_cons_succ, List.set_cons_zero]
        refine wpAnyZ_take (i := 1) rfl (by kernel_rfl) (fun _ _ _ h => h) (Or.inl ⟨by rfl, by intro w hSw; obtain ⟨s0, s1, s2, s3⟩ := hSw; go_simp; try with_reducible rfl⟩) hHeld.out ?_
        simp only [Act.put, List.setIfInBounds_toArray, Nat.reduceAdd, List.getElem_toArray, List.getElem_cons_succ, List.getElem_cons_zero, List.set_cons_succ, List.set_cons_zero]
        refine wpAnyZ_take (i := 2) rfl (by kernel_rfl) (fun _ _ _ h => h) (Or.inl ⟨by rfl, by intro w hSw; obtain ⟨s0, s1, s2, s3⟩ := hSw; go_simp; try with_reducible rfl⟩) hHeld.out ?_
        simp only [Act.put, List.setIfInBounds_toArray, Nat.reduceAdd, List.getElem_toArray, List.getElem_cons_succ, List.getElem_cons_zero, List.set_cons_succ, List.set_cons_zero]
        refine wpAnyZ_take (i := 3) rfl (by kernel_rfl) (fun _ _ _ h => h) (Or.inl ⟨by rfl, by intro w hSw; obtain ⟨s0, s1, s2, s3⟩ := hSw; go_simp; try with_reducible rfl⟩) hHeld.out ?_
        simp only [Act.put, List.setIfInBounds_toArray, Nat.reduceAdd, List.getElem_toArray, List.getElem_cons_succ, List.getElem_cons_zero, List.set_cons_succ, List.set_cons_zero]
        refine wpAnyZ_take (i := 4) rfl (by kernel_rfl) (fun _ _ _ h => h) (Or.inl ⟨by rfl, by intro w hSw; obtain ⟨s0, s1, s2, s3⟩ := hSw; go_simp; try with_reducible rfl⟩) hHeld.out ?_
        simp only [Act.put, List.setIfInBounds_toArray, Nat.reduceAdd, List.getElem_toArray, List.getElem_cons_succ, List.getElem_cons_zero, List.set_cons_succ, List.set_cons_zero]
        refine wpAnyZ_take (i := 5) rfl (by kernel_rfl) (fun _ _ _ h => h) (Or.inl ⟨by rfl, by intro w hSw; obtain ⟨s0, s1, s2, s3⟩ := hSw; go_simp; try with_reducible rfl⟩) hHeld.out ?_
        simp only [Act.put, List.setIfInBounds_toArray, Nat.reduceAdd, List.getElem_toArray, List.getElem_cons_succ, List.getElem_cons_zero, List.set_cons_succ, List.set_cons_zero]
        refine wpAnyZ_take (i := 6) rfl (by kernel_rfl) (fun _ _ _ h => h) (Or.inl ⟨by rfl, by intro w hSw; obtain ⟨s0, s1, s2, s3⟩ := hSw; go_simp; try with_reducible rfl⟩) hHeld.out ?_
        simp only [Act.put, List.setIfInBounds_toArray, Nat.reduceAdd, List.getElem_toArray, List.getElem_cons_succ, List.getElem_cons_zero, List.set_cons_succ, List.set_cons_zero]
        refine wpAnyZ_take (i := 7) rfl (by kernel_rfl) (fun _ _ _ h => h) (Or.inl ⟨by rfl, by intro w hSw; obtain ⟨s0, s1, s2, s3⟩ := hSw; go_simp; try with_reducible rfl⟩) hHeld.out ?_
        simp only [Act.put, List.setIfInBounds_toArray, Nat.reduceAdd, List.getElem_toArray, List.getElem_cons_succ, List.getElem_cons_zero, List.set_cons_succ, List.set_cons_zero]
        refine wpAnyZ_one (i := 8) (by kernel_rfl) rfl (fun K hK => ?_)
        go_simp
        have hwd : Keeps nobody wr wr.drew := (Keeps.refl _ wr).drew
        refine (docone_any F G (.slice A1 la.length c1) (.slice A2 lb.length c2) (s, la) (t, lb) wr.drew (HRA.out.keeps hwd (fun _ _ h => h)) (HRB.out.keeps hwd (fun _ _ h => h))).mono ?_
        rintro e w2 ⟨rfl, hk2⟩
        have hk2 : Keeps nobody wr w2 := hwd.trans hk2
        have HH2 := Lib.hid (show w2.cell? ⟨p, o + k * 2, none⟩ = some (.int .i64 s) ∧ w2.cell? ⟨p, o + k * 2 + 1, none⟩ = some (.slice A1 la.length c1) ∧ w2.cell? ⟨q, o2 + k * 2, none⟩ = some (.int .i64 t) ∧ w2.cell? ⟨q, o2 + k * 2 + 1, none⟩ = some (.slice A2 lb.length c2) from
          ⟨opt_quiet x0 hk2, opt_quiet x1 hk2, opt_quiet y0 hk2, opt_quiet y1 hk2⟩)
        refine hK.out _ _ (fun _ => HH2.out) ?_
        have HK2 := Lib.hid (HK.out.trans hk2)
        obtain ⟨r, hr⟩ : ∃ r, r = decide ((s, la) = (t, lb)) := ⟨_, rfl⟩
        rw [← hr]
        have HRr := Lib.hid hr
        clear hK K hHeld hwd hk2 hr x0 x1 y0 y1 HK
        refine wpAnyZ_one (i := 9) (by kernel_rfl) rfl (fun K hK => ?_)
        go_simp
        refine hK.out _ _ (fun _ => HH2.out) ?_
        clear hK K
        refine wpAnyZ_done (by kernel_rfl) ?_ _
        have hps : (optsOf ps)[k]? = some (s, la) := by rw [List.getElem?_map, HPA.out]; rfl
        have hqs : (optsOf qs)[k]? = some (t, lb) := by rw [List.getElem?_map, HQB.out]; rfl
        cases r
        · have hno : decide (optsOf ps = optsOf qs) = false := by
            rw [decide_eq_false_iff_not]
            intro he
            rw [he, hqs] at hps
            injection hps with hps
            have := HRr.out
            rw [hps] at this
            simp at this
          have HNO := Lib.hid hno
          clear hno hps hqs
          go_wp2
          go_ret
          exact ⟨by rw [HNO.out]; rfl, HK2.out⟩
        · have hyes : (s, la) = (t, lb) := of_decide_eq_true HRr.out.symm
          have hTk : (optsOf ps).take (k + 1) = (optsOf qs).take (k + 1) := by
            rw [List.take_succ_eq_append_getElem (by simpa using hkl), List.take_succ_eq_append_getElem (by simpa using hkq), HT.out]
            congr 1
            have e1 : (optsOf ps)[k]'(by simpa using hkl) = (s, la) := by
              have := List.getElem?_eq_getElem (l := optsOf ps) (i := k) (by simpa using hkl)
              rw [hps] at this
              injection this with this
              exact this.symm
            have e2 : (optsOf qs)[k]'(by simpa using hkq) = (t, lb) := by
              have := List.getElem?_eq_getElem (l := optsOf qs) (i := k) (by simpa using hkq)
              rw [hqs] at this
              injection this with this
              exact this.symm
            rw [e1, e2, hyes]
          have HTk := Lib.hid hTk
          clear hyes hTk hps hqs HT
          go_wp2_with fail
          go_roundw
          case rel => exact ⟨k + 1, by omega, by go_num, HTk.out, HK2.out⟩
          case measure => simp [intOf]; omega
      · have hkk : k = ps.length := by omega
        have hyes : decide (optsOf ps = optsOf qs) = true := by
          rw [decide_eq_true_eq]
          have h := HT.out
          rw [List.take_of_length_le (by simp; omega), List.take_of_length_le (by simp; have := HL.out; omega)] at h
          exact h
        have HYES := Lib.hid hyes
        subst hkk
        clear hyes hT hK hkl hk HT
        go_wp2
        go_ret
        exact ⟨by rw [HYES.out]; rfl, HK.out⟩
  · have e1 : ((ps.length : Int) != (qs.length : Int)) = true := by rw [bne_iff_ne]; omega
    have hno : decide (optsOf ps = optsOf qs) = false := by
      rw [decide_eq_false_iff_not]
      intro he
      have := congrArg List.length he
      simp at this
      exact hl this
    have HNO := Lib.hid hno
    clear hno hl
    go_enter Tryd.func21, Tryd.ntmps21
    go_wp2
    go_ret
    exact ⟨by rw [HNO.out]; rfl, Keeps.refl _ _⟩
end Go.Proofs.YtaalbjbocbagcaaDoor
