/- Package slices' EqualFunc over options; package packet: Same. -/
import Derived.Test.YtaalbjbocbagcaaDoorOptE
namespace Go.Proofs.YtaalbjbocbagcaaDoor
open Go.RowKit
set_option maxRecDepth 100000 in
set_option maxHeartbeats 4000000 in
theorem equalFunc_any (F G : Nat → Prop) (x y : Value) (ps qs : List (Value × Pure.Opt)) (w : World) (hx : ORow w F x ps) (hy : ORow w G y qs) :
    Calls Tryd.prog 30 #[x, y, .func (.func 31) #[] #[]] w fun e w' => e = .returned (.bool (decide (optsOf ps = optsOf qs))) ∧ Keeps nobody w w' := by
  obtain ⟨A, cA, rfl, hc⟩ := hx.form
  obtain ⟨B, cB, rfl, hd⟩ := hy.form
  have hm := hx.out.2.1
  have hm2 := hy.out.2.1
  unfold maxLen at hm hm2
  have HX := Lib.hid hx
  have HY := Lib.hid hy
  clear hx hy
  by_cases hl : ps.length = qs.length
  · have e1 : ((ps.length : Int) != (qs.length : Int)) = false := by rw [hl]; simp
    have HL := Lib.hid hl
    rw [← hl] at HY ⊢
    rw [← hl] at e1
    clear hl hm2
    go_enter Tryd.func30, Tryd.ntmps30
    go_wp2
    clear e1
    go_loopw [17] (fun i wr => ∃ k : Nat, k ≤ ps.length ∧ i = .int .i64 (k : Int) ∧ (optsOf ps).take k = (optsOf qs).take k ∧ Keeps nobody w wr) (fun i _ => ps.length - (intOf i).toNat)
    case atStart => exact ⟨0, by omega, rfl, by simp, Keeps.refl _ _⟩
    case round =>
      obtain ⟨k, hk, rfl, hT, hK⟩ := hrel
      have HT := Lib.hid hT
      have HK := Lib.hid hK
      by_cases hkl : k < ps.length
      · have i0 : (0 : Int) ≤ (k : Int) := by omega
        have i1 : (k : Int) < (ps.length : Int) := by omega
        have hkq : k < qs.length := by have := HL.out; omega
        obtain ⟨p, o, A1, c1, s, la, rfl, hFp, x0, x1, hra, hpa⟩ := (HX.out.keeps hK (fun _ _ h => h)).pick k hkl
        obtain ⟨q, o2, A2, c2, t, lb, rfl, hGq, y0, y1, hrb, hqb⟩ := (HY.out.keeps hK (fun _ _ h => h)).pick k hkq
        have HRA := Lib.hid hra
        have HRB := Lib.hid hrb
        have HPA := Lib.hid hpa
        have HQB := Lib.hid hqb
        clear hT hK hra hrb hpa hqb
        go_upto_region 6 with fail
        obtain ⟨r, hr⟩ : ∃ r, r = wr.heap.size := ⟨_, rfl⟩
        rw [← hr]
        generalize hw1 : wr.alloc _ = w1
        have hb1 : Blk w1 r 36 #[.int .i64 s, .slice A1 la.length c1] := by rw [← hw1, hr]; exact Blk.new wr _ _
        have hk1 : Keeps nobody wr w1 := by rw [← hw1]; exact (Keeps.refl _ wr).alloc _
        have y0' := opt_quiet y0 hk1
        have y1' := opt_quiet y1 hk1
        clear hw1 x0 x1 y0 y1 hr
        go_upto_region 7 with fail
        obtain ⟨r2, hr2⟩ : ∃ r, r = w1.heap.size := ⟨_, rfl⟩
        rw [← hr2]
        generalize hw2 : w1.alloc _ = w2
        have hb2 : Blk w2 r2 36 #[.int .i64 t, .slice A2 lb.length c2] := by rw [← hw2, hr2]; exact Blk.new w1 _ _
        have hk2 : Keeps nobody w1 w2 := by rw [← hw2]; exact (Keeps.refl _ w1).alloc _
        have hb1' := hb1.keeps hk2 (fun h => h)
        have hk12 := hk1.trans hk2
        have HO := Lib.hid (one_any F G (.slice A1 la.length c1) (.slice A2 lb.length c2) (s, la) (t, lb) w2 (HRA.out.keeps hk12 (fun _ _ h => h)) (HRB.out.keeps hk12 (fun _ _ h => h)))
        have HK2 := Lib.hid (HK.out.trans hk12)
        have x0 : w2.cell? ⟨r, 0, none⟩ = some (.int .i64 s) := by rw [hb1'.cell]; rfl
        have x1 : w2.cell? ⟨r, 1, none⟩ = some (.slice A1 la.length c1) := by rw [hb1'.cell]; rfl
        have z0 : w2.cell? ⟨r2, 0, none⟩ = some (.int .i64 t) := by rw [hb2.cell]; rfl
        have z1 : w2.cell? ⟨r2, 1, none⟩ = some (.slice A2 lb.length c2) := by rw [hb2.cell]; rfl
        obtain ⟨b, hb⟩ : ∃ b, b = decide ((s, la) = (t, lb)) := ⟨_, rfl⟩
        rw [← hb] at HO
        have HRr := Lib.hid hb
        clear hw2 hr2 hb1 hk1 hb2 hk2 hb1' hk12 y0' y1' HK hb
        go_wp2_with fail
        refine HO.out.mono ?_
        rintro e w3 ⟨rfl, hk3⟩
        have HK3 := Lib.hid (HK2.out.trans hk3)
        clear HO hk3 x0 x1 z0 z1 HK2
        have hps : (optsOf ps)[k]? = some (s, la) := by rw [List.getElem?_map, HPA.out]; rfl
        have hqs : (optsOf qs)[k]? = some (t, lb) := by rw [List.getElem?_map, HQB.out]; rfl
        cases b
        · have hno : decide (optsOf ps = optsOf qs) = false := by
            rw [decide_eq_false_iff_not]
            intro he
            rw [he, hqs] at hps
            injection hps with hps
            have := HRr.out
            rw [hps] at this
            simp at this
          have HNO := Lib.hid hno
          clear hno hps hqs
          go_wp2
          go_ret
          exact ⟨by rw [HNO.out]; rfl, HK3.out⟩
        · have hyes : (s, la) = (t, lb) := of_decide_eq_true HRr.out.symm
          have hTk : (optsOf ps).take (k + 1) = (optsOf qs).take (k + 1) := by
            rw [List.take_succ_eq_append_getElem (by simpa using hkl), List.take_succ_eq_append_getElem (by simpa using hkq), HT.out]
            congr 1
            have e1 : (optsOf ps)[k]'(by simpa using hkl) = (s, la) := by
              have := List.getElem?_eq_getElem (l := optsOf ps) (i := k) (by simpa using hkl)
              rw [hps] at this
              injection this with this
              exact this.symm
            have e2 : (optsOf qs)[k]'(by simpa using hkq) = (t, lb) := by
              have := List.getElem?_eq_getElem (l := optsOf qs) (i := k) (by simpa using hkq)
              rw [hqs] at this
              injection this with this
              exact this.symm
            rw [e1, e2, hyes]
          have HTk := Lib.hid hTk
          clear hyes hTk hps hqs HT
          go_wp2_with fail
          go_roundw
          case rel => exact ⟨k + 1, by omega, by go_num, HTk.out, HK3.out⟩
          case measure => simp [intOf]; omega
      · have hkk : k = ps.length := by omega
        have hyes : decide (optsOf ps = optsOf qs) = true := by
          rw [decide_eq_true_eq]
          have h := HT.out
          rw [List.take_of_length_le (by simp; omega), List.take_of_length_le (by simp; have := HL.out; omega)] at h
          exact h
        have HYES := Lib.hid hyes
        subst hkk
        clear hyes hT hK hkl hk HT
        go_wp2
        go_ret
        exact ⟨by rw [HYES.out]; rfl, HK.out⟩
  · have e1 : ((ps.length : Int) != (qs.length : Int)) = true := by rw [bne_iff_ne]; omega
    have hno : decide (optsOf ps = optsOf qs) = false := by
      rw [decide_eq_false_iff_not]
      intro he
      have := congrArg List.length he
      simp at this
      exact hl this
    have HNO := Lib.hid hno
    clear hno hl
    go_enter Tryd.func30, Tryd.ntmps30
    go_wp2
    go_ret
    exact ⟨by rw [HNO.out]; rfl, Keeps.refl _ _⟩
set_option maxHeartbeats 1000000 in
theorem same_opts (F G : Nat → Prop) (x y : Value) (ps qs : List (Value × Pure.Opt)) (w : World) (hx : ORow w F x ps) (hy : ORow w G y qs) :
    Calls Tryd.prog 22 #[x, y] w fun e w' => e = .returned (.bool (decide (optsOf ps = optsOf qs))) ∧ Keeps nobody w w' := by
  have HE := Lib.hid (equalFunc_any F G x y ps qs w hx hy)
  obtain ⟨A, cA, rfl, _⟩ := hx.form
  obtain ⟨B, cB, rfl, _⟩ := hy.form
  obtain ⟨r, hr⟩ : ∃ r, r = decide (optsOf ps = optsOf qs) := ⟨_, rfl⟩
  rw [← hr] at HE ⊢
  clear hx hy hr
  go_enter Tryd.func22, Tryd.ntmps22
  go_wp2_with fail
  refine HE.out.mono ?_
  rintro e w2 ⟨rfl, hk⟩
  have HK := Lib.hid hk
  clear hk HE
  go_wp2
  go_ret
  exact ⟨rfl, HK.out⟩
end Go.Proofs.YtaalbjbocbagcaaDoor
