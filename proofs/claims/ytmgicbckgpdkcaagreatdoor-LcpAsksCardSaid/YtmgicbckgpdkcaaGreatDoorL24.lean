/- The document's Read of chapter 14. -/
import Derived.Test.YtmgicbckgpdkcaaGreatDoorL23
namespace Go.Proofs.YtmgicbckgpdkcaaGreatDoor
set_option maxRecDepth 100000
set_option maxHeartbeats 16000000
open _root_.Go.Lib renaming hid → xhd
open List renaming setIfInBounds_toArray → xqA, getElem_toArray → xqB, getElem_cons_succ → xqC, getElem_cons_zero → xqD, set_cons_succ → xqE, set_cons_zero → xqF
open Go.RowKit
theorem y09 {k m : Nat} (h : k + 1 ≤ m) : m - (intOf (.int .i64 ((k + 1 : Nat) : Int))).toNat < m - (intOf (.int .i64 (k : Int))).toNat := by simp [intOf]; omega
theorem y0k {k m : Nat} (h : k + 1 ≤ m) : m - (intOf (.int .i64 ((k : Int) + 1))).toNat < m - (intOf (.int .i64 (k : Int))).toNat := by simp [intOf]; omega
theorem y7p : (Tryz.prog.info? 41).map (·.size) = some 8 := by kernel_rfl
namespace Pure
theorem one_1 (V : Vals) (D : List UInt8) (h : D.length = 2) : readOne V (1, D) = { V with mru := bnum D } := by
 unfold readOne
 rw [if_pos ⟨rfl, h⟩]
theorem one_1' (V : Vals) (D : List UInt8) (h : D.length ≠ 2) : readOne V (1, D) = V := by
 unfold readOne
 rw [if_neg (fun e => h e.2), if_neg (by simp), if_neg (by simp), if_neg (by simp), if_neg (by simp), if_neg (by simp), if_neg (by simp), if_neg (by simp)]
theorem one_2 (V : Vals) (D : List UInt8) (h : D.length = 4) : readOne V (2, D) = { V with accm := bnum D } := by
 unfold readOne
 rw [if_neg (by simp), if_pos ⟨rfl, h⟩]
theorem one_2' (V : Vals) (D : List UInt8) (h : D.length ≠ 4) : readOne V (2, D) = V := by
 unfold readOne
 rw [if_neg (by simp), if_neg (fun e => h e.2), if_neg (by simp), if_neg (by simp), if_neg (by simp), if_neg (by simp), if_neg (by simp), if_neg (by simp)]
theorem one_5 (V : Vals) (D : List UInt8) (h : D.length = 4) : readOne V (5, D) = { V with magic := bnum D } := by
 unfold readOne
 rw [if_neg (by simp), if_neg (by simp), if_neg (by simp), if_pos ⟨rfl, h⟩]
theorem one_5' (V : Vals) (D : List UInt8) (h : D.length ≠ 4) : readOne V (5, D) = V := by
 unfold readOne
 rw [if_neg (by simp), if_neg (by simp), if_neg (by simp), if_neg (fun e => h e.2), if_neg (by simp), if_neg (by simp), if_neg (by simp), if_neg (by simp)]
theorem one_7 (V : Vals) (D : List UInt8) (h : D.length = 0) : readOne V (7, D) = { V with pfc := true } := by
 unfold readOne
 rw [if_neg (by simp), if_neg (by simp), if_neg (by simp), if_neg (by simp), if_pos ⟨rfl, h⟩]
theorem one_7' (V : Vals) (D : List UInt8) (h : D.length ≠ 0) : readOne V (7, D) = V := by
 unfold readOne
 rw [if_neg (by simp), if_neg (by simp), if_neg (by simp), if_neg (by simp), if_neg (fun e => h e.2), if_neg (by simp), if_neg (by simp), if_neg (by simp)]
theorem one_8 (V : Vals) (D : List UInt8) (h : D.length = 0) : readOne V (8, D) = { V with acfc := true } := by
 unfold readOne
 rw [if_neg (by simp), if_neg (by simp), if_neg (by simp), if_neg (by simp), if_neg (by simp), if_pos ⟨rfl, h⟩]
theorem one_8' (V : Vals) (D : List UInt8) (h : D.length ≠ 0) : readOne V (8, D) = V := by
 unfold readOne
 rw [if_neg (by simp), if_neg (by simp), if_neg (by simp), if_neg (by simp), if_neg (by simp), if_neg (fun e => h e.2), if_neg (by simp), if_neg (by simp)]
theorem one_17 (V : Vals) (D : List UInt8) (h : D.length = 2) : readOne V (17, D) = { V with mrru := bnum D } := by
 unfold readOne
 rw [if_neg (by simp), if_neg (by simp), if_neg (by simp), if_neg (by simp), if_neg (by simp), if_neg (by simp), if_pos ⟨rfl, h⟩]
theorem one_17' (V : Vals) (D : List UInt8) (h : D.length ≠ 2) : readOne V (17, D) = V := by
 unfold readOne
 rw [if_neg (by simp), if_neg (by simp), if_neg (by simp), if_neg (by simp), if_neg (by simp), if_neg (by simp), if_neg (fun e => h e.2), if_neg (by simp)]
theorem one_18 (V : Vals) (D : List UInt8) (h : D.length = 0) : readOne V (18, D) = { V with short := true } := by
 unfold readOne
 rw [if_neg (by simp), if_neg (by simp), if_neg (by simp), if_neg (by simp), if_neg (by simp), if_neg (by simp), if_neg (by simp), if_pos ⟨rfl, h⟩]
theorem one_18' (V : Vals) (D : List UInt8) (h : D.length ≠ 0) : readOne V (18, D) = V := by
 unfold readOne
 rw [if_neg (by simp), if_neg (by simp), if_neg (by simp), if_neg (by simp), if_neg (by simp), if_neg (by simp), if_neg (by simp), if_neg (fun e => h e.2)]
theorem one_3 (V : Vals) (D : List UInt8) (h : D = proofData) : readOne V (3, D) = { V with auth := true } := by
 unfold readOne
 rw [if_neg (by simp), if_neg (by simp), if_pos ⟨rfl, h⟩]
theorem one_3' (V : Vals) (D : List UInt8) (h : D ≠ proofData) : readOne V (3, D) = V := by
 unfold readOne
 rw [if_neg (by simp), if_neg (by simp), if_neg (fun e => h e.2), if_neg (by simp), if_neg (by simp), if_neg (by simp), if_neg (by simp), if_neg (by simp)]
theorem one_other (V : Vals) (t : Int) (D : List UInt8) (h1 : t ≠ 1) (h2 : t ≠ 2) (h3 : t ≠ 3) (h5 : t ≠ 5) (h7 : t ≠ 7) (h8 : t ≠ 8) (h17 : t ≠ 17) (h18 : t ≠ 18) : readOne V (t, D) = V := by
 unfold readOne
 rw [if_neg (fun e => h1 e.1), if_neg (fun e => h2 e.1), if_neg (fun e => h3 e.1), if_neg (fun e => h5 e.1), if_neg (fun e => h7 e.1), if_neg (fun e => h8 e.1), if_neg (fun e => h17 e.1), if_neg (fun e => h18 e.1)]
end Pure
theorem y8d (F : Nat → Prop) (x : Value) (zs : List (Value × Pure.Opt)) (w : World) (hx : ORow w F x zs) :
  Calls Tryz.prog 21 #[x] w fun e w' => e = .returned (y0v (Pure.readVals (y02 zs))) ∧ Keeps y01 w w' := by
 obtain ⟨X, cx, rfl, _⟩ := hx.form
 have hm := hx.out.2.1
 unfold maxLen at hm
 have HI := xhd y7p
 obtain ⟨ro, hro⟩ : ∃ q, q = w.heap.size := ⟨_, rfl⟩
 obtain ⟨w1, hw1⟩ : ∃ q, q = (w.alloc (.cells #[.int .i64 0, .int .i64 0, .int .u32 0, .bool false, .bool false, .bool false, .bool false, .int .u32 0] 41)).alloc (.cells #[.int .i64 1500, .int .i64 0, .int .u32 4294967295, .bool false, .bool false, .bool false, .bool false, .int .u32 0] 41) := ⟨_, rfl⟩
 have hk1 : Keeps y01 w w1 := by rw [hw1]; exact ((Keeps.refl _ w).alloc _).alloc _
 have HO := xhd (show Blk w1 ro 41 #[.int .i64 0, .int .i64 0, .int .u32 0, .bool false, .bool false, .bool false, .bool false, .int .u32 0] by rw [hw1, hro]; exact (Blk.new w _ _).alloc _)
 have HV := xhd (show Blk w1 (ro + 1) 41 (y08 Pure.Vals.plain).toArray by
  rw [hw1, show ro + 1 = (w.alloc (.cells #[.int .i64 0, .int .i64 0, .int .u32 0, .bool false, .bool false, .bool false, .bool false, .int .u32 0] 41)).heap.size by rw [hro]; simp]
  exact Blk.new _ _ _)
 have HX := xhd hx
 have HK1 := xhd hk1
 have HRO := xhd hro
 clear hx hk1
 go_enter Tryz.func21, Tryz.ntmps21
 go_upto_region 2 with fail
 rw [← hro]
 rw [← hw1]
 clear hw1 hro
 go_wp2_with fail
 go_loopw [4] (fun i wr => ∃ k : Nat, k ≤ zs.length ∧ i = .int .i64 (k : Int) ∧ Blk wr ro 41 #[.int .i64 0, .int .i64 0, .int .u32 0, .bool false, .bool false, .bool false, .bool false, .int .u32 0] ∧ Blk wr (ro + 1) 41 (y08 (Pure.readVals ((y02 zs).take k))).toArray ∧ Keeps y01 w wr) (fun i _ => zs.length - (intOf i).toNat)
 case atStart => exact ⟨0, by omega, rfl, HO.out, HV.out, HK1.out⟩
 case round =>
  clear HO HV HK1
  obtain ⟨k, hk, rfl, hO, hV, hK⟩ := hrel
  have HO := xhd hO
  have HK := xhd hK
  obtain ⟨V, hVe⟩ : ∃ V, V = Pure.readVals ((y02 zs).take k) := ⟨_, rfl⟩
  rw [← hVe] at hV
  have HVB := xhd hV
  have HVE := xhd hVe
  by_cases hkl : k < zs.length
  ·have i0 : (0 : Int) ≤ (k : Int) := by omega
   have i1 : (k : Int) < (zs.length : Int) := by omega
   have d1 : decide ((k : Int) < (zs.length : Int)) = true := decide_eq_true (by omega)
   have d2 : decide (k < zs.length) = true := decide_eq_true hkl
   obtain ⟨b, o, A1, c1, t, D, rfl, hFb, h1, h2, hrow, hpa⟩ := (HX.out.keeps hK (fun _ _ h => h)).pick k hkl
   have HTK := xhd (show Pure.readVals ((y02 zs).take (k + 1)) = Pure.readOne V (t, D) by rw [y6p hpa, Pure.readVals_snoc, ← hVe])
   have x0 : wr.cell? ⟨b, o + k * 2, none⟩ = some (.int .i64 t) := h1
   have x1 : wr.cell? ⟨b, o + k * 2 + 1, none⟩ = some (.slice A1 D.length c1) := h2
   have HROW := xhd hrow
   have hdl := hrow.2.1
   unfold maxLen at hdl
   have HKL := xhd (show k + 1 ≤ zs.length from hkl)
   have HLW := xhd (show wrap64 ((k : Int) + 1) = ((k + 1 : Nat) : Int) by rw [IntWalk.wrap64_in _ (by omega)]; omega)
   clear hO hV hK hVe h1 h2 hrow hpa hFb hkl
   go_upto_if 21 with fail
   go_cut [6] (fun s wx => s = .int .i64 (((if D.length ≤ 4 then Pure.bnum D else 0 : Nat)) : Int) ∧ wr = wx)
   case first =>
    by_cases h4 : D.length ≤ 4
    ·rw [show decide (((D.length : Nat) : Int) ≤ 4) = true from decide_eq_true (by omega)]
     have HN := xhd (docnum_any F (.slice A1 D.length c1) D wr HROW.out h4)
     have H4 := xhd h4
     clear h4
     go_wp2_with fail
     refine HN.out.mono ?_
     rintro e wz ⟨rfl, rfl⟩
     go_wp2_with fail
     go_meet
     exact ⟨by rw [if_pos H4.out], rfl⟩
    ·rw [show decide (((D.length : Nat) : Int) ≤ 4) = false from decide_eq_false (by omega)]
     have H4 := xhd h4
     clear h4
     go_wp2_with fail
     go_meet
     exact ⟨by rw [if_neg H4.out]; rfl, rfl⟩
   case rest =>
    obtain ⟨rfl, rfl⟩ := hcut
    obtain ⟨N, hN⟩ : ∃ q : Nat, q = if D.length ≤ 4 then Pure.bnum D else 0 := ⟨_, rfl⟩
    rw [← hN]
    have HN := xhd hN
    have HNS := xhd (show N < 4294967296 by rw [hN]; split; exact Pure.bnum_small (by assumption); decide)
    clear hN
    by_cases t1 : t = 1
    ·subst t1
     by_cases hn : D.length = 2
     ·have qn : (((D.length : Nat) : Int) == 2) = true := by rw [beq_iff_eq]; omega
      have HE := xhd (show Pure.readOne V (1, D) = { V with mru := N } by rw [Pure.one_1 V D hn, HN.out, if_pos (by omega)])
      clear hn
      have vc : wr.cell? ⟨ro + 1, 0, none⟩ = some (.int .i64 (V.mru : Int)) := by rw [HVB.out.cell]; rfl
      have vf := HVB.out.frozen 0
      have HZ := xhd (HVB.out.set 0 (.int .i64 (N : Int)))
      have KS := (Keeps.refl (only (ro + 1)) wr).put 0 (.int .i64 (N : Int))
      have HO6 := xhd (HO.out.keeps KS (fun e => by have e : ro = ro + 1 := e; omega))
      have HK6 := xhd (HK.out.trans' KS (fun i hi hl => by have e : i = ro + 1 := hi; have := HRO.out; omega))
      clear KS
      go_wp2_with go_quiet (fail)
      go_roundw
      case rel => exact ⟨k + 1, HKL.out, by go_num, HO6.out, by rw [HTK.out, HE.out]; exact HZ.out, HK6.out⟩
      case measure => first | exact y09 HKL.out | exact y0k HKL.out | (rw [HLW.out]; exact y09 HKL.out)
     ·have qn : (((D.length : Nat) : Int) == 2) = false := by rw [beq_eq_false_iff_ne]; omega
      have HE := xhd (Pure.one_1' V D hn)
      clear hn
      go_wp2_with go_quiet (fail)
      rename_i nq
      have hk3 : Keeps y01 wr (wr.drewN nq) := Keeps.of_drewN rfl
      have HO3 := xhd (HO.out.keeps hk3 (fun e => e))
      have HV3 := xhd (HVB.out.keeps hk3 (fun e => e))
      have HK3 := xhd (HK.out.trans hk3)
      clear hk3
      refine ⟨⟨k + 1, HKL.out, by go_num, HO3.out, by rw [HTK.out, HE.out]; exact HV3.out, HK3.out⟩, ?_⟩
      first | exact y09 HKL.out | exact y0k HKL.out | (rw [HLW.out]; exact y09 HKL.out)
    by_cases t2 : t = 2
    ·subst t2
     by_cases hn : D.length = 4
     ·have qn : (((D.length : Nat) : Int) == 4) = true := by rw [beq_iff_eq]; omega
      have HE := xhd (show Pure.readOne V (2, D) = { V with accm := N } by rw [Pure.one_2 V D hn, HN.out, if_pos (by omega)])
      clear hn
      have vc : wr.cell? ⟨ro + 1, 2, none⟩ = some (.int .u32 (V.accm : Int)) := by rw [HVB.out.cell]; rfl
      have vf := HVB.out.frozen 2
      have ec : IntKind.u32.wrap (N : Int) = (N : Int) := IntWalk.u32_in _ (by have := HNS.out; omega)
      have HZ := xhd (HVB.out.set 2 (.int .u32 (N : Int)))
      have KS := (Keeps.refl (only (ro + 1)) wr).put 2 (.int .u32 (N : Int))
      have HO6 := xhd (HO.out.keeps KS (fun e => by have e : ro = ro + 1 := e; omega))
      have HK6 := xhd (HK.out.trans' KS (fun i hi hl => by have e : i = ro + 1 := hi; have := HRO.out; omega))
      clear KS
      go_wp2_with go_quiet (fail)
      go_roundw
      case rel => exact ⟨k + 1, HKL.out, by go_num, HO6.out, by rw [HTK.out, HE.out]; exact HZ.out, HK6.out⟩
      case measure => first | exact y09 HKL.out | exact y0k HKL.out | (rw [HLW.out]; exact y09 HKL.out)
     ·have qn : (((D.length : Nat) : Int) == 4) = false := by rw [beq_eq_false_iff_ne]; omega
      have HE := xhd (Pure.one_2' V D hn)
      clear hn
      go_wp2_with go_quiet (fail)
      rename_i nq
      have hk3 : Keeps y01 wr (wr.drewN nq) := Keeps.of_drewN rfl
      have HO3 := xhd (HO.out.keeps hk3 (fun e => e))
      have HV3 := xhd (HVB.out.keeps hk3 (fun e => e))
      have HK3 := xhd (HK.out.trans hk3)
      clear hk3
      refine ⟨⟨k + 1, HKL.out, by go_num, HO3.out, by rw [HTK.out, HE.out]; exact HV3.out, HK3.out⟩, ?_⟩
      first | exact y09 HKL.out | exact y0k HKL.out | (rw [HLW.out]; exact y09 HKL.out)
    by_cases t3 : t = 3
    ·subst t3
     by_cases hp : D = Pure.proofData
     ·have HPP := xhd hp
      have hde : decide (D = Pure.proofData) = true := decide_eq_true hp
      have HDE := xhd hde
      clear hp hde
      go_upto_region 13 with fail
      have HC3 := xhd (And.intro HO.out (And.intro HVB.out (And.intro x0 (And.intro x1 (And.intro HROW.out (Keeps.refl y01 wr))))))
      have HKZ3 := xhd (Keeps.refl y01 wr)
      clear x0 x1
      refine y0i (fun w' => Blk w' ro 41 #[.int .i64 0, .int .i64 0, .int .u32 0, .bool false, .bool false, .bool false, .bool false, .int .u32 0] ∧ Blk w' (ro + 1) 41 (y08 V).toArray ∧ w'.cell? ⟨b, o + k * 2, none⟩ = some (.int .i64 3) ∧ w'.cell? ⟨b, o + k * 2 + 1, none⟩ = some (.slice A1 D.length c1) ∧ Row w' F 1 (.slice A1 D.length c1) D.length (u8s D) ∧ Keeps y01 wr w') 15 16 rfl (by kernel_rfl) ⟨HC3.out.1, HC3.out.2.1, HC3.out.2.2.1, HC3.out.2.2.2.1, HC3.out.2.2.2.2.1, HC3.out.2.2.2.2.2.drew⟩ (fun hHeld => ?_)
      have HSW := hHeld
      clear hHeld
      have HK0d := xhd (HKZ3.out.drew)
      refine y00 (i := 0) rfl (by kernel_rfl) (fun _ _ _ h => h) (Or.inl ⟨by rfl, by intro w hSw; obtain ⟨sO, sB, s0, s1, sR, sK⟩ := hSw; go_simp; try with_reducible rfl⟩) HSW.out ?_
      simp only [Act.put, xqA, Nat.reduceAdd, xqB, xqC, xqD, xqE, xqF]
      refine y00 (i := 1) rfl (by kernel_rfl) (fun _ _ _ h => h) (Or.inl ⟨by rfl, by intro w hSw; obtain ⟨sO, sB, s0, s1, sR, sK⟩ := hSw; go_simp; try with_reducible rfl⟩) HSW.out ?_
      simp only [Act.put, xqA, Nat.reduceAdd, xqB, xqC, xqD, xqE, xqF]
      refine y00 (i := 2) rfl (by kernel_rfl) (fun _ _ _ h => h) (Or.inl ⟨by rfl, by intro w hSw; obtain ⟨sO, sB, s0, s1, sR, sK⟩ := hSw; go_simp; try with_reducible rfl⟩) HSW.out ?_
      simp only [Act.put, xqA, Nat.reduceAdd, xqB, xqC, xqD, xqE, xqF]
      refine y00 (i := 3) rfl (by kernel_rfl) (fun _ _ _ h => h) (Or.inl ⟨by rfl, by intro w hSw; obtain ⟨sO, sB, s0, s1, sR, sK⟩ := hSw; go_simp; try with_reducible rfl⟩) HSW.out ?_
      simp only [Act.put, xqA, Nat.reduceAdd, xqB, xqC, xqD, xqE, xqF]
      refine y00 (i := 4) rfl (by kernel_rfl) (fun _ _ _ h => h) (Or.inl ⟨by rfl, by intro w hSw; obtain ⟨sO, sB, s0, s1, sR, sK⟩ := hSw; go_simp; try with_reducible rfl⟩) HSW.out ?_
      simp only [Act.put, xqA, Nat.reduceAdd, xqB, xqC, xqD, xqE, xqF]
      refine y00 (i := 5) rfl (by kernel_rfl) (fun _ _ _ h => h) (Or.inl ⟨by rfl, by intro w hSw; obtain ⟨sO, sB, s0, s1, sR, sK⟩ := hSw; go_simp; try with_reducible rfl⟩) HSW.out ?_
      simp only [Act.put, xqA, Nat.reduceAdd, xqB, xqC, xqD, xqE, xqF]
      refine y00 (i := 6) rfl (by kernel_rfl) (fun _ _ _ h => h) (Or.inl ⟨by rfl, by intro w hSw; obtain ⟨sO, sB, s0, s1, sR, sK⟩ := hSw; go_simp; try with_reducible rfl⟩) HSW.out ?_
      simp only [Act.put, xqA, Nat.reduceAdd, xqB, xqC, xqD, xqE, xqF]
      refine y00 (i := 7) rfl (by kernel_rfl) (fun _ _ _ h => h) (Or.inl ⟨by rfl, by intro w hSw; obtain ⟨sO, sB, s0, s1, sR, sK⟩ := hSw; go_simp; try with_reducible rfl⟩) HSW.out ?_
      simp only [Act.put, xqA, Nat.reduceAdd, xqB, xqC, xqD, xqE, xqF]
      refine y00 (i := 8) rfl (by kernel_rfl) (fun _ _ _ h => h) (Or.inl ⟨by rfl, by intro w hSw; obtain ⟨sO, sB, s0, s1, sR, sK⟩ := hSw; go_simp; try with_reducible rfl⟩) HSW.out ?_
      simp only [Act.put, xqA, Nat.reduceAdd, xqB, xqC, xqD, xqE, xqF]
      refine y00 (i := 9) rfl (by kernel_rfl) (fun _ _ _ h => h) (Or.inl ⟨by rfl, by intro w hSw; obtain ⟨sO, sB, s0, s1, sR, sK⟩ := hSw; go_simp; try with_reducible rfl⟩) HSW.out ?_
      simp only [Act.put, xqA, Nat.reduceAdd, xqB, xqC, xqD, xqE, xqF]
      refine y00 (i := 10) rfl (by kernel_rfl) (fun _ _ _ h => h) (Or.inl ⟨by rfl, by intro w hSw; obtain ⟨sO, sB, s0, s1, sR, sK⟩ := hSw; go_simp; try with_reducible rfl⟩) HSW.out ?_
      simp only [Act.put, xqA, Nat.reduceAdd, xqB, xqC, xqD, xqE, xqF]
      refine y00 (i := 11) rfl (by kernel_rfl) (fun _ _ _ h => h) (Or.inl ⟨by rfl, by intro w hSw; obtain ⟨sO, sB, s0, s1, sR, sK⟩ := hSw; go_simp; try with_reducible rfl⟩) HSW.out ?_
      simp only [Act.put, xqA, Nat.reduceAdd, xqB, xqC, xqD, xqE, xqF]
      refine y05 (i := 12) (by kernel_rfl) rfl (fun K hK => ?_)
      try rw [if_pos (by rfl)]
      go_simp
      refine (y1z _).mono ?_
      rintro e w4 ⟨rfl, hw4⟩
      have HP := xhd (show Row w4 (fun _ => True) 1 _ 3 (u8s Pure.proofData) by rw [hw4]; exact (y1f _ Pure.proofData _ 3 rfl rfl (by decide)).mono (fun _ _ => trivial))
      have hk4 : Keeps y01 wr.drew w4 := by rw [hw4]; exact (Keeps.refl _ _).alloc _
      have HS4 := xhd (And.intro (HSW.out.1.keeps hk4 (fun e => e)) (And.intro (HSW.out.2.1.keeps hk4 (fun e => e)) (And.intro (y0m HSW.out.2.2.1 hk4) (And.intro (y0m HSW.out.2.2.2.1 hk4) (And.intro (HSW.out.2.2.2.2.1.keeps hk4 (fun _ _ e => e)) (HSW.out.2.2.2.2.2.trans hk4))))))
      clear hw4 hk4
      refine hK.out _ _ (fun _ => HS4.out) ?_
      clear hK K
      try simp only [Act.put, xqA, Nat.reduceAdd, xqB, xqC, xqD, xqE, xqF]
      refine y05 (i := 13) (by kernel_rfl) rfl (fun K hK => ?_)
      try rw [if_pos (by rfl)]
      go_simp
      have HSM := xhd (y35 _ _ _ _ D Pure.proofData w4 HS4.out.2.2.2.2.1 HP.out)
      rw [HDE.out] at HSM
      refine HSM.out.mono ?_
      rintro e w5 ⟨rfl, hk5⟩
      have HS5 := xhd (And.intro (HS4.out.1.keeps hk5 (fun e => e)) (And.intro (HS4.out.2.1.keeps hk5 (fun e => e)) (And.intro (y0m HS4.out.2.2.1 hk5) (And.intro (y0m HS4.out.2.2.2.1 hk5) (And.intro (HS4.out.2.2.2.2.1.keeps hk5 (fun _ _ e => e)) (HS4.out.2.2.2.2.2.trans hk5))))))
      clear hk5 HSM
      refine hK.out _ _ (fun _ => HS5.out) ?_
      clear hK K
      try simp only [Act.put, xqA, Nat.reduceAdd, xqB, xqC, xqD, xqE, xqF]
      refine y00 (i := 14) rfl (by kernel_rfl) (fun _ _ _ h => h) (Or.inl ⟨by rfl, by intro w hSw; obtain ⟨sO, sB, s0, s1, sR, sK⟩ := hSw; go_simp; try with_reducible rfl⟩) HS5.out ?_
      simp only [Act.put, xqA, Nat.reduceAdd, xqB, xqC, xqD, xqE, xqF]
      refine y05 (i := 15) (by kernel_rfl) rfl (fun K hK => ?_)
      go_simp
      refine hK.out _ _ (fun h => absurd rfl h) ?_
      clear hK K
      refine y0f (by kernel_rfl) ?_ _
      have HO := xhd (HS5.out.1)
      have HVB := xhd (HS5.out.2.1)
      have HK := xhd (HK.out.trans HS5.out.2.2.2.2.2)
      have x0 := HS5.out.2.2.1
      have x1 := HS5.out.2.2.2.1
      clear HS5 HS4 HSW HP HKZ3 HC3
      have HE := xhd (Pure.one_3 V D HPP.out)
      have vc : w5.cell? ⟨ro + 1, 3, none⟩ = some (.bool V.auth) := by rw [HVB.out.cell]; rfl
      have vf := HVB.out.frozen 3
      have HZ := xhd (HVB.out.set 3 (.bool true))
      have KS := (Keeps.refl (only (ro + 1)) w5).put 3 (.bool true)
      have HO6 := xhd (HO.out.keeps KS (fun e => by have e : ro = ro + 1 := e; omega))
      have HK6 := xhd (HK.out.trans' KS (fun i hi hl => by have e : i = ro + 1 := hi; have := HRO.out; omega))
      clear KS
      go_wp2_with go_quiet (fail)
      go_roundw
      case rel => exact ⟨k + 1, HKL.out, by go_num, HO6.out, by rw [HTK.out, HE.out]; exact HZ.out, HK6.out⟩
      case measure => first | exact y09 HKL.out | exact y0k HKL.out | (rw [HLW.out]; exact y09 HKL.out)
     ·have HPP := xhd hp
      have hde : decide (D = Pure.proofData) = false := decide_eq_false hp
      have HDE := xhd hde
      clear hp hde
      go_upto_region 13 with fail
      have HC3 := xhd (And.intro HO.out (And.intro HVB.out (And.intro x0 (And.intro x1 (And.intro HROW.out (Keeps.refl y01 wr))))))
      have HKZ3 := xhd (Keeps.refl y01 wr)
      clear x0 x1
      refine y0i (fun w' => Blk w' ro 41 #[.int .i64 0, .int .i64 0, .int .u32 0, .bool false, .bool false, .bool false, .bool false, .int .u32 0] ∧ Blk w' (ro + 1) 41 (y08 V).toArray ∧ w'.cell? ⟨b, o + k * 2, none⟩ = some (.int .i64 3) ∧ w'.cell? ⟨b, o + k * 2 + 1, none⟩ = some (.slice A1 D.length c1) ∧ Row w' F 1 (.slice A1 D.length c1) D.length (u8s D) ∧ Keeps y01 wr w') 15 16 rfl (by kernel_rfl) ⟨HC3.out.1, HC3.out.2.1, HC3.out.2.2.1, HC3.out.2.2.2.1, HC3.out.2.2.2.2.1, HC3.out.2.2.2.2.2.drew⟩ (fun hHeld => ?_)
      have HSW := hHeld
      clear hHeld
      have HK0d := xhd (HKZ3.out.drew)
      refine y00 (i := 0) rfl (by kernel_rfl) (fun _ _ _ h => h) (Or.inl ⟨by rfl, by intro w hSw; obtain ⟨sO, sB, s0, s1, sR, sK⟩ := hSw; go_simp; try with_reducible rfl⟩) HSW.out ?_
      simp only [Act.put, xqA, Nat.reduceAdd, xqB, xqC, xqD, xqE, xqF]
      refine y00 (i := 1) rfl (by kernel_rfl) (fun _ _ _ h => h) (Or.inl ⟨by rfl, by intro w hSw; obtain ⟨sO, sB, s0, s1, sR, sK⟩ := hSw; go_simp; try with_reducible rfl⟩) HSW.out ?_
      simp only [Act.put, xqA, Nat.reduceAdd, xqB, xqC, xqD, xqE, xqF]
      refine y00 (i := 2) rfl (by kernel_rfl) (fun _ _ _ h => h) (Or.inl ⟨by rfl, by intro w hSw; obtain ⟨sO, sB, s0, s1, sR, sK⟩ := hSw; go_simp; try with_reducible rfl⟩) HSW.out ?_
      simp only [Act.put, xqA, Nat.reduceAdd, xqB, xqC, xqD, xqE, xqF]
      refine y00 (i := 3) rfl (by kernel_rfl) (fun _ _ _ h => h) (Or.inl ⟨by rfl, by intro w hSw; obtain ⟨sO, sB, s0, s1, sR, sK⟩ := hSw; go_simp; try with_reducible rfl⟩) HSW.out ?_
      simp only [Act.put, xqA, Nat.reduceAdd, xqB, xqC, xqD, xqE, xqF]
      refine y00 (i := 4) rfl (by kernel_rfl) (fun _ _ _ h => h) (Or.inl ⟨by rfl, by intro w hSw; obtain ⟨sO, sB, s0, s1, sR, sK⟩ := hSw; go_simp; try with_reducible rfl⟩) HSW.out ?_
      simp only [Act.put, xqA, Nat.reduceAdd, xqB, xqC, xqD, xqE, xqF]
      refine y00 (i := 5) rfl (by kernel_rfl) (fun _ _ _ h => h) (Or.inl ⟨by rfl, by intro w hSw; obtain ⟨sO, sB, s0, s1, sR, sK⟩ := hSw; go_simp; try with_reducible rfl⟩) HSW.out ?_
      simp only [Act.put, xqA, Nat.reduceAdd, xqB, xqC, xqD, xqE, xqF]
      refine y00 (i := 6) rfl (by kernel_rfl) (fun _ _ _ h => h) (Or.inl ⟨by rfl, by intro w hSw; obtain ⟨sO, sB, s0, s1, sR, sK⟩ := hSw; go_simp; try with_reducible rfl⟩) HSW.out ?_
      simp only [Act.put, xqA, Nat.reduceAdd, xqB, xqC, xqD, xqE, xqF]
      refine y00 (i := 7) rfl (by kernel_rfl) (fun _ _ _ h => h) (Or.inl ⟨by rfl, by intro w hSw; obtain ⟨sO, sB, s0, s1, sR, sK⟩ := hSw; go_simp; try with_reducible rfl⟩) HSW.out ?_
      simp only [Act.put, xqA, Nat.reduceAdd, xqB, xqC, xqD, xqE, xqF]
      refine y00 (i := 8) rfl (by kernel_rfl) (fun _ _ _ h => h) (Or.inl ⟨by rfl, by intro w hSw; obtain ⟨sO, sB, s0, s1, sR, sK⟩ := hSw; go_simp; try with_reducible rfl⟩) HSW.out ?_
      simp only [Act.put, xqA, Nat.reduceAdd, xqB, xqC, xqD, xqE, xqF]
      refine y00 (i := 9) rfl (by kernel_rfl) (fun _ _ _ h => h) (Or.inl ⟨by rfl, by intro w hSw; obtain ⟨sO, sB, s0, s1, sR, sK⟩ := hSw; go_simp; try with_reducible rfl⟩) HSW.out ?_
      simp only [Act.put, xqA, Nat.reduceAdd, xqB, xqC, xqD, xqE, xqF]
      refine y00 (i := 10) rfl (by kernel_rfl) (fun _ _ _ h => h) (Or.inl ⟨by rfl, by intro w hSw; obtain ⟨sO, sB, s0, s1, sR, sK⟩ := hSw; go_simp; try with_reducible rfl⟩) HSW.out ?_
      simp only [Act.put, xqA, Nat.reduceAdd, xqB, xqC, xqD, xqE, xqF]
      refine y00 (i := 11) rfl (by kernel_rfl) (fun _ _ _ h => h) (Or.inl ⟨by rfl, by intro w hSw; obtain ⟨sO, sB, s0, s1, sR, sK⟩ := hSw; go_simp; try with_reducible rfl⟩) HSW.out ?_
      simp only [Act.put, xqA, Nat.reduceAdd, xqB, xqC, xqD, xqE, xqF]
      refine y05 (i := 12) (by kernel_rfl) rfl (fun K hK => ?_)
      try rw [if_pos (by rfl)]
      go_simp
      refine (y1z _).mono ?_
      rintro e w4 ⟨rfl, hw4⟩
      have HP := xhd (show Row w4 (fun _ => True) 1 _ 3 (u8s Pure.proofData) by rw [hw4]; exact (y1f _ Pure.proofData _ 3 rfl rfl (by decide)).mono (fun _ _ => trivial))
      have hk4 : Keeps y01 wr.drew w4 := by rw [hw4]; exact (Keeps.refl _ _).alloc _
      have HS4 := xhd (And.intro (HSW.out.1.keeps hk4 (fun e => e)) (And.intro (HSW.out.2.1.keeps hk4 (fun e => e)) (And.intro (y0m HSW.out.2.2.1 hk4) (And.intro (y0m HSW.out.2.2.2.1 hk4) (And.intro (HSW.out.2.2.2.2.1.keeps hk4 (fun _ _ e => e)) (HSW.out.2.2.2.2.2.trans hk4))))))
      clear hw4 hk4
      refine hK.out _ _ (fun _ => HS4.out) ?_
      clear hK K
      try simp only [Act.put, xqA, Nat.reduceAdd, xqB, xqC, xqD, xqE, xqF]
      refine y05 (i := 13) (by kernel_rfl) rfl (fun K hK => ?_)
      try rw [if_pos (by rfl)]
      go_simp
      have HSM := xhd (y35 _ _ _ _ D Pure.proofData w4 HS4.out.2.2.2.2.1 HP.out)
      rw [HDE.out] at HSM
      refine HSM.out.mono ?_
      rintro e w5 ⟨rfl, hk5⟩
      have HS5 := xhd (And.intro (HS4.out.1.keeps hk5 (fun e => e)) (And.intro (HS4.out.2.1.keeps hk5 (fun e => e)) (And.intro (y0m HS4.out.2.2.1 hk5) (And.intro (y0m HS4.out.2.2.2.1 hk5) (And.intro (HS4.out.2.2.2.2.1.keeps hk5 (fun _ _ e => e)) (HS4.out.2.2.2.2.2.trans hk5))))))
      clear hk5 HSM
      refine hK.out _ _ (fun _ => HS5.out) ?_
      clear hK K
      try simp only [Act.put, xqA, Nat.reduceAdd, xqB, xqC, xqD, xqE, xqF]
      refine y00 (i := 14) rfl (by kernel_rfl) (fun _ _ _ h => h) (Or.inl ⟨by rfl, by intro w hSw; obtain ⟨sO, sB, s0, s1, sR, sK⟩ := hSw; go_simp; try with_reducible rfl⟩) HS5.out ?_
      simp only [Act.put, xqA, Nat.reduceAdd, xqB, xqC, xqD, xqE, xqF]
      refine y05 (i := 15) (by kernel_rfl) rfl (fun K hK => ?_)
      go_simp
      refine hK.out _ _ (fun h => absurd rfl h) ?_
      clear hK K
      refine y0f (by kernel_rfl) ?_ _
      have HO := xhd (HS5.out.1)
      have HVB := xhd (HS5.out.2.1)
      have HK := xhd (HK.out.trans HS5.out.2.2.2.2.2)
      have x0 := HS5.out.2.2.1
      have x1 := HS5.out.2.2.2.1
      clear HS5 HS4 HSW HP HKZ3 HC3
      have HE := xhd (Pure.one_3' V D HPP.out)
      go_wp2_with go_quiet (fail)
      go_roundw
      case rel => exact ⟨k + 1, HKL.out, by go_num, HO.out, by rw [HTK.out, HE.out]; exact HVB.out, HK.out⟩
      case measure => first | exact y09 HKL.out | exact y0k HKL.out | (rw [HLW.out]; exact y09 HKL.out)
    by_cases t5 : t = 5
    ·subst t5
     by_cases hn : D.length = 4
     ·have qn : (((D.length : Nat) : Int) == 4) = true := by rw [beq_iff_eq]; omega
      have HE := xhd (show Pure.readOne V (5, D) = { V with magic := N } by rw [Pure.one_5 V D hn, HN.out, if_pos (by omega)])
      clear hn
      go_upto_region 16 with go_quiet (fail)
      rename_i nq
      have hk3 : Keeps y01 wr (wr.drewN nq) := Keeps.of_drewN rfl
      generalize hw3 : wr.drewN nq = w3 at hk3 ⊢
      have HO := xhd (HO.out.keeps hk3 (fun e => e))
      have HVB := xhd (HVB.out.keeps hk3 (fun e => e))
      have HK := xhd (HK.out.trans hk3)
      clear hk3 hw3 x0 x1
      have vc : w3.cell? ⟨ro + 1, 7, none⟩ = some (.int .u32 (V.magic : Int)) := by rw [HVB.out.cell]; rfl
      have vf := HVB.out.frozen 7
      have ec : IntKind.u32.wrap (N : Int) = (N : Int) := IntWalk.u32_in _ (by have := HNS.out; omega)
      have HZ := xhd (HVB.out.set 7 (.int .u32 (N : Int)))
      have KS := (Keeps.refl (only (ro + 1)) w3).put 7 (.int .u32 (N : Int))
      have HO6 := xhd (HO.out.keeps KS (fun e => by have e : ro = ro + 1 := e; omega))
      have HK6 := xhd (HK.out.trans' KS (fun i hi hl => by have e : i = ro + 1 := hi; have := HRO.out; omega))
      clear KS
      go_wp2_with go_quiet (fail)
      go_roundw
      case rel => exact ⟨k + 1, HKL.out, by go_num, HO6.out, by rw [HTK.out, HE.out]; exact HZ.out, HK6.out⟩
      case measure => first | exact y09 HKL.out | exact y0k HKL.out | (rw [HLW.out]; exact y09 HKL.out)
     ·have qn : (((D.length : Nat) : Int) == 4) = false := by rw [beq_eq_false_iff_ne]; omega
      have HE := xhd (Pure.one_5' V D hn)
      clear hn
      go_wp2_with go_quiet (fail)
      rename_i nq
      have hk3 : Keeps y01 wr (wr.drewN nq) := Keeps.of_drewN rfl
      have HO3 := xhd (HO.out.keeps hk3 (fun e => e))
      have HV3 := xhd (HVB.out.keeps hk3 (fun e => e))
      have HK3 := xhd (HK.out.trans hk3)
      clear hk3
      refine ⟨⟨k + 1, HKL.out, by go_num, HO3.out, by rw [HTK.out, HE.out]; exact HV3.out, HK3.out⟩, ?_⟩
      first | exact y09 HKL.out | exact y0k HKL.out | (rw [HLW.out]; exact y09 HKL.out)
    by_cases t7 : t = 7
    ·subst t7
     by_cases hn : D.length = 0
     ·have qn : (((D.length : Nat) : Int) == 0) = true := by rw [beq_iff_eq]; omega
      have HE := xhd (Pure.one_7 V D hn)
      clear hn
      go_upto_region 18 with go_quiet (fail)
      rename_i nq
      have hk3 : Keeps y01 wr (wr.drewN nq) := Keeps.of_drewN rfl
      generalize hw3 : wr.drewN nq = w3 at hk3 ⊢
      have HO := xhd (HO.out.keeps hk3 (fun e => e))
      have HVB := xhd (HVB.out.keeps hk3 (fun e => e))
      have HK := xhd (HK.out.trans hk3)
      clear hk3 hw3 x0 x1
      have vc : w3.cell? ⟨ro + 1, 4, none⟩ = some (.bool V.pfc) := by rw [HVB.out.cell]; rfl
      have vf := HVB.out.frozen 4
      have HZ := xhd (HVB.out.set 4 (.bool true))
      have KS := (Keeps.refl (only (ro + 1)) w3).put 4 (.bool true)
      have HO6 := xhd (HO.out.keeps KS (fun e => by have e : ro = ro + 1 := e; omega))
      have HK6 := xhd (HK.out.trans' KS (fun i hi hl => by have e : i = ro + 1 := hi; have := HRO.out; omega))
      clear KS
      go_wp2_with go_quiet (fail)
      go_roundw
      case rel => exact ⟨k + 1, HKL.out, by go_num, HO6.out, by rw [HTK.out, HE.out]; exact HZ.out, HK6.out⟩
      case measure => first | exact y09 HKL.out | exact y0k HKL.out | (rw [HLW.out]; exact y09 HKL.out)
     ·have qn : (((D.length : Nat) : Int) == 0) = false := by rw [beq_eq_false_iff_ne]; omega
      have HE := xhd (Pure.one_7' V D hn)
      clear hn
      go_wp2_with go_quiet (fail)
      rename_i nq
      have hk3 : Keeps y01 wr (wr.drewN nq) := Keeps.of_drewN rfl
      have HO3 := xhd (HO.out.keeps hk3 (fun e => e))
      have HV3 := xhd (HVB.out.keeps hk3 (fun e => e))
      have HK3 := xhd (HK.out.trans hk3)
      clear hk3
      refine ⟨⟨k + 1, HKL.out, by go_num, HO3.out, by rw [HTK.out, HE.out]; exact HV3.out, HK3.out⟩, ?_⟩
      first | exact y09 HKL.out | exact y0k HKL.out | (rw [HLW.out]; exact y09 HKL.out)
    by_cases t8 : t = 8
    ·subst t8
     by_cases hn : D.length = 0
     ·have qn : (((D.length : Nat) : Int) == 0) = true := by rw [beq_iff_eq]; omega
      have HE := xhd (Pure.one_8 V D hn)
      clear hn
      go_upto_region 20 with go_quiet (fail)
      rename_i nq
      have hk3 : Keeps y01 wr (wr.drewN nq) := Keeps.of_drewN rfl
      generalize hw3 : wr.drewN nq = w3 at hk3 ⊢
      have HO := xhd (HO.out.keeps hk3 (fun e => e))
      have HVB := xhd (HVB.out.keeps hk3 (fun e => e))
      have HK := xhd (HK.out.trans hk3)
      clear hk3 hw3 x0 x1
      have vc : w3.cell? ⟨ro + 1, 5, none⟩ = some (.bool V.acfc) := by rw [HVB.out.cell]; rfl
      have vf := HVB.out.frozen 5
      have HZ := xhd (HVB.out.set 5 (.bool true))
      have KS := (Keeps.refl (only (ro + 1)) w3).put 5 (.bool true)
      have HO6 := xhd (HO.out.keeps KS (fun e => by have e : ro = ro + 1 := e; omega))
      have HK6 := xhd (HK.out.trans' KS (fun i hi hl => by have e : i = ro + 1 := hi; have := HRO.out; omega))
      clear KS
      go_wp2_with go_quiet (fail)
      go_roundw
      case rel => exact ⟨k + 1, HKL.out, by go_num, HO6.out, by rw [HTK.out, HE.out]; exact HZ.out, HK6.out⟩
      case measure => first | exact y09 HKL.out | exact y0k HKL.out | (rw [HLW.out]; exact y09 HKL.out)
     ·have qn : (((D.length : Nat) : Int) == 0) = false := by rw [beq_eq_false_iff_ne]; omega
      have HE := xhd (Pure.one_8' V D hn)
      clear hn
      go_wp2_with go_quiet (fail)
      rename_i nq
      have hk3 : Keeps y01 wr (wr.drewN nq) := Keeps.of_drewN rfl
      have HO3 := xhd (HO.out.keeps hk3 (fun e => e))
      have HV3 := xhd (HVB.out.keeps hk3 (fun e => e))
      have HK3 := xhd (HK.out.trans hk3)
      clear hk3
      refine ⟨⟨k + 1, HKL.out, by go_num, HO3.out, by rw [HTK.out, HE.out]; exact HV3.out, HK3.out⟩, ?_⟩
      first | exact y09 HKL.out | exact y0k HKL.out | (rw [HLW.out]; exact y09 HKL.out)
    by_cases t17 : t = 17
    ·subst t17
     by_cases hn : D.length = 2
     ·have qn : (((D.length : Nat) : Int) == 2) = true := by rw [beq_iff_eq]; omega
      have HE := xhd (show Pure.readOne V (17, D) = { V with mrru := N } by rw [Pure.one_17 V D hn, HN.out, if_pos (by omega)])
      clear hn
      go_upto_region 22 with go_quiet (fail)
      rename_i nq
      have hk3 : Keeps y01 wr (wr.drewN nq) := Keeps.of_drewN rfl
      generalize hw3 : wr.drewN nq = w3 at hk3 ⊢
      have HO := xhd (HO.out.keeps hk3 (fun e => e))
      have HVB := xhd (HVB.out.keeps hk3 (fun e => e))
      have HK := xhd (HK.out.trans hk3)
      clear hk3 hw3 x0 x1
      have vc : w3.cell? ⟨ro + 1, 1, none⟩ = some (.int .i64 (V.mrru : Int)) := by rw [HVB.out.cell]; rfl
      have vf := HVB.out.frozen 1
      have HZ := xhd (HVB.out.set 1 (.int .i64 (N : Int)))
      have KS := (Keeps.refl (only (ro + 1)) w3).put 1 (.int .i64 (N : Int))
      have HO6 := xhd (HO.out.keeps KS (fun e => by have e : ro = ro + 1 := e; omega))
      have HK6 := xhd (HK.out.trans' KS (fun i hi hl => by have e : i = ro + 1 := hi; have := HRO.out; omega))
      clear KS
      go_wp2_with go_quiet (fail)
      go_roundw
      case rel => exact ⟨k + 1, HKL.out, by go_num, HO6.out, by rw [HTK.out, HE.out]; exact HZ.out, HK6.out⟩
      case measure => first | exact y09 HKL.out | exact y0k HKL.out | (rw [HLW.out]; exact y09 HKL.out)
     ·have qn : (((D.length : Nat) : Int) == 2) = false := by rw [beq_eq_false_iff_ne]; omega
      have HE := xhd (Pure.one_17' V D hn)
      clear hn
      go_wp2_with go_quiet (fail)
      rename_i nq
      have hk3 : Keeps y01 wr (wr.drewN nq) := Keeps.of_drewN rfl
      have HO3 := xhd (HO.out.keeps hk3 (fun e => e))
      have HV3 := xhd (HVB.out.keeps hk3 (fun e => e))
      have HK3 := xhd (HK.out.trans hk3)
      clear hk3
      refine ⟨⟨k + 1, HKL.out, by go_num, HO3.out, by rw [HTK.out, HE.out]; exact HV3.out, HK3.out⟩, ?_⟩
      first | exact y09 HKL.out | exact y0k HKL.out | (rw [HLW.out]; exact y09 HKL.out)
    by_cases t18 : t = 18
    ·subst t18
     by_cases hn : D.length = 0
     ·have qn : (((D.length : Nat) : Int) == 0) = true := by rw [beq_iff_eq]; omega
      have HE := xhd (Pure.one_18 V D hn)
      clear hn
      go_upto_region 24 with go_quiet (fail)
      rename_i nq
      have hk3 : Keeps y01 wr (wr.drewN nq) := Keeps.of_drewN rfl
      generalize hw3 : wr.drewN nq = w3 at hk3 ⊢
      have HO := xhd (HO.out.keeps hk3 (fun e => e))
      have HVB := xhd (HVB.out.keeps hk3 (fun e => e))
      have HK := xhd (HK.out.trans hk3)
      clear hk3 hw3 x0 x1
      have vc : w3.cell? ⟨ro + 1, 6, none⟩ = some (.bool V.short) := by rw [HVB.out.cell]; rfl
      have vf := HVB.out.frozen 6
      have HZ := xhd (HVB.out.set 6 (.bool true))
      have KS := (Keeps.refl (only (ro + 1)) w3).put 6 (.bool true)
      have HO6 := xhd (HO.out.keeps KS (fun e => by have e : ro = ro + 1 := e; omega))
      have HK6 := xhd (HK.out.trans' KS (fun i hi hl => by have e : i = ro + 1 := hi; have := HRO.out; omega))
      clear KS
      go_wp2_with go_quiet (fail)
      go_roundw
      case rel => exact ⟨k + 1, HKL.out, by go_num, HO6.out, by rw [HTK.out, HE.out]; exact HZ.out, HK6.out⟩
      case measure => first | exact y09 HKL.out | exact y0k HKL.out | (rw [HLW.out]; exact y09 HKL.out)
     ·have qn : (((D.length : Nat) : Int) == 0) = false := by rw [beq_eq_false_iff_ne]; omega
      have HE := xhd (Pure.one_18' V D hn)
      clear hn
      go_wp2_with go_quiet (fail)
      rename_i nq
      have hk3 : Keeps y01 wr (wr.drewN nq) := Keeps.of_drewN rfl
      have HO3 := xhd (HO.out.keeps hk3 (fun e => e))
      have HV3 := xhd (HVB.out.keeps hk3 (fun e => e))
      have HK3 := xhd (HK.out.trans hk3)
      clear hk3
      refine ⟨⟨k + 1, HKL.out, by go_num, HO3.out, by rw [HTK.out, HE.out]; exact HV3.out, HK3.out⟩, ?_⟩
      first | exact y09 HKL.out | exact y0k HKL.out | (rw [HLW.out]; exact y09 HKL.out)
    have q1 : (t == 1) = false := by simp [t1]
    have q2 : (t == 2) = false := by simp [t2]
    have q3 : (t == 3) = false := by simp [t3]
    have q5 : (t == 5) = false := by simp [t5]
    have q7 : (t == 7) = false := by simp [t7]
    have q8 : (t == 8) = false := by simp [t8]
    have q17 : (t == 17) = false := by simp [t17]
    have q18 : (t == 18) = false := by simp [t18]
    have HE := xhd (Pure.one_other V t D t1 t2 t3 t5 t7 t8 t17 t18)
    clear t1 t2 t3 t5 t7 t8 t17 t18
    go_wp2_with go_quiet (fail)
    rename_i nq
    have hk3 : Keeps y01 wr (wr.drewN nq) := Keeps.of_drewN rfl
    have HO3 := xhd (HO.out.keeps hk3 (fun e => e))
    have HV3 := xhd (HVB.out.keeps hk3 (fun e => e))
    have HK3 := xhd (HK.out.trans hk3)
    clear hk3
    refine ⟨⟨k + 1, HKL.out, by go_num, HO3.out, by rw [HTK.out, HE.out]; exact HV3.out, HK3.out⟩, ?_⟩
    first | exact y09 HKL.out | exact y0k HKL.out | (rw [HLW.out]; exact y09 HKL.out)
  ·have hkk : k = zs.length := by omega
   subst hkk
   have HE := xhd (show Pure.readVals (y02 zs) = V by rw [HVE.out, List.take_of_length_le (by simp)])
   clear hO hV hK hVe hkl
   have y0 : wr.cell? ⟨ro + 1, 0, none⟩ = some (.int .i64 (V.mru : Int)) := by rw [HVB.out.cell]; rfl
   have y1 : wr.cell? ⟨ro + 1, 1, none⟩ = some (.int .i64 (V.mrru : Int)) := by rw [HVB.out.cell]; rfl
   have y2 : wr.cell? ⟨ro + 1, 2, none⟩ = some (.int .u32 (V.accm : Int)) := by rw [HVB.out.cell]; rfl
   have y3 : wr.cell? ⟨ro + 1, 3, none⟩ = some (.bool V.auth) := by rw [HVB.out.cell]; rfl
   have y4 : wr.cell? ⟨ro + 1, 4, none⟩ = some (.bool V.pfc) := by rw [HVB.out.cell]; rfl
   have y5 : wr.cell? ⟨ro + 1, 5, none⟩ = some (.bool V.acfc) := by rw [HVB.out.cell]; rfl
   have y6 : wr.cell? ⟨ro + 1, 6, none⟩ = some (.bool V.short) := by rw [HVB.out.cell]; rfl
   have y7 : wr.cell? ⟨ro + 1, 7, none⟩ = some (.int .u32 (V.magic : Int)) := by rw [HVB.out.cell]; rfl
   have o0 : wr.cell? ⟨ro, 0, none⟩ = some (.int .i64 0) := by rw [HO.out.cell]; rfl
   have p0 := HO.out.frozen 0
   have o1 : wr.cell? ⟨ro, 1, none⟩ = some (.int .i64 0) := by rw [HO.out.cell]; rfl
   have p1 := HO.out.frozen 1
   have o2 : wr.cell? ⟨ro, 2, none⟩ = some (.int .u32 0) := by rw [HO.out.cell]; rfl
   have p2 := HO.out.frozen 2
   have o3 : wr.cell? ⟨ro, 3, none⟩ = some (.bool false) := by rw [HO.out.cell]; rfl
   have p3 := HO.out.frozen 3
   have o4 : wr.cell? ⟨ro, 4, none⟩ = some (.bool false) := by rw [HO.out.cell]; rfl
   have p4 := HO.out.frozen 4
   have o5 : wr.cell? ⟨ro, 5, none⟩ = some (.bool false) := by rw [HO.out.cell]; rfl
   have p5 := HO.out.frozen 5
   have o6 : wr.cell? ⟨ro, 6, none⟩ = some (.bool false) := by rw [HO.out.cell]; rfl
   have p6 := HO.out.frozen 6
   have o7 : wr.cell? ⟨ro, 7, none⟩ = some (.int .u32 0) := by rw [HO.out.cell]; rfl
   have p7 := HO.out.frozen 7
   have HZ := xhd ((((((((HO.out.set 0 (.int .i64 (V.mru : Int))).set 1 (.int .i64 (V.mrru : Int))).set 2 (.int .u32 (V.accm : Int))).set 3 (.bool V.auth)).set 4 (.bool V.pfc)).set 5 (.bool V.acfc)).set 6 (.bool V.short)).set 7 (.int .u32 (V.magic : Int)))
   have HKF := xhd (HK.out.trans' (((((((((Keeps.refl (only ro) wr).put 0 (.int .i64 (V.mru : Int))).put 1 (.int .i64 (V.mrru : Int))).put 2 (.int .u32 (V.accm : Int))).put 3 (.bool V.auth)).put 4 (.bool V.pfc)).put 5 (.bool V.acfc)).put 6 (.bool V.short)).put 7 (.int .u32 (V.magic : Int))) (fun i hi hl => by have e : i = ro := hi; have := HRO.out; omega))
   go_wp2_with fail
   refine bodyPost_ret (y0b rfl _ _ ro 41 _ (0, 0) _ rfl HZ.out Tryz.underlying41 rfl (by rw [HI.out]; rfl)) rfl ?_
   exact ⟨by rw [HE.out]; rfl, HKF.out⟩
theorem y88 (F : Nat → Prop) (x : Value) (us : List (Value × Pure.Rule)) (w : World) (hx : RRow w F x us) (hF : ∀ b, F b → b < w.heap.size) (hul : us.length ≤ 100000) :
  Calls Tryz.prog 65 #[x] w fun e w' => ∃ u, ∃ qs : List (Value × Pure.Rule), e = .returned u ∧ y0e qs = y0e us ∧ RRead w w' F u qs := by
 obtain ⟨X, cx, rfl, _⟩ := hx.form
 have HX := xhd hx
 have HF := xhd hF
 clear hx hF
 go_enter Tryz.func65, Tryz.ntmps65
 go_wp2_with fail
 go_loopw [3, 4] (fun v i wr => ∃ k : Nat, k ≤ us.length ∧ i = .int .i64 (k : Int) ∧ ∃ qs : List (Value × Pure.Rule), y0e qs = (y0e us).take k ∧ qs.length = k ∧ RRead w wr F v qs) (fun _ i _ => us.length - (intOf i).toNat)
 case atStart => exact ⟨0, by omega, rfl, [], rfl, rfl, ⟨World.ownsRow_nil _ _ _ _, by simp, Keeps.refl _ _⟩⟩
 case round =>
  obtain ⟨k, hk, rfl, qs, hqs, rfl, hrd⟩ := hrel
  obtain ⟨A2, c2, rfl⟩ := y04 hrd.own
  have HQS := xhd hqs
  have HRD := xhd hrd
  clear hqs hrd
  by_cases hkl : qs.length < us.length
  ·have i0' : (0 : Int) ≤ (qs.length : Int) := by omega
   have i1 : (qs.length : Int) < (us.length : Int) := by omega
   have d1 : decide ((qs.length : Int) < (us.length : Int)) = true := decide_eq_true (by omega)
   have d2 : decide (qs.length < us.length) = true := decide_eq_true hkl
   obtain ⟨bx, ox, pA, pc, pr, rfl, hFb, hcell, hwant, hpa⟩ := (HX.out.keeps HRD.out.kept (fun _ _ h => h)).pick qs.length hkl
   have HTK := xhd (show (y0e us).take (qs.length + 1) = (y0e us).take qs.length ++ [pr] from Pure.take_snoc _ qs.length _ (by rw [List.getElem?_map, hpa]; rfl))
   have HRW := xhd hwant
   have x0 : wr.cell? ⟨bx, ox + qs.length * 7, none⟩ = some (.int .i64 pr.type) := hcell 0 _ rfl
   have x1 := hcell 1 _ rfl
   have x2 := hcell 2 _ rfl
   have x3 := hcell 3 _ rfl
   have x4 := hcell 4 _ rfl
   have x5 := hcell 5 _ rfl
   have x6 := hcell 6 _ rfl
   clear hcell hwant hpa
   go_upto_region 6 with fail
   obtain ⟨w3, hw3⟩ : ∃ w3, w3 = wr.alloc (.cells (y0c (.slice pA pr.want.length pc, pr)).toArray 148) := ⟨_, rfl⟩
   obtain ⟨gr, hgr⟩ : ∃ gr, gr = wr.heap.size := ⟨_, rfl⟩
   rw [show wr.alloc (.cells #[.int .i64 pr.type, .int .i64 pr.len, .int .i64 pr.how, .int .i64 pr.lo, .int .i64 pr.hi, .slice pA pr.want.length pc, .bool pr.need] 148) = w3 from hw3.symm, ← hgr]
   have hk3 : Keeps y01 wr w3 := by rw [hw3]; exact (Keeps.refl _ wr).alloc _
   have HB5 := xhd (show Blk w3 gr 148 (y0c (.slice pA pr.want.length pc, pr)).toArray by rw [hw3, hgr]; exact Blk.new wr _ _)
   have HR5 := xhd (HRD.out.keeps hk3)
   have HD5 := xhd ((HRW.out.keeps hk3 (fun _ _ h => h)).mono (G := fun b => F b ∧ (Value.slice A2 qs.length c2).ownBlock ≠ some b ∧ b < w3.heap.size) (fun b hb => by
    have h1 := HF.out b hb
    have h2 := HRD.out.kept.size
    have h3 := hk3.size
    exact ⟨hb, fun e => by have := y06 HRD.out.own b e; omega, by omega⟩))
   have b0 : w3.cell? ⟨gr, 0, none⟩ = some (.int .i64 pr.type) := by rw [HB5.out.cell]; rfl
   have b1 : w3.cell? ⟨gr, 1, none⟩ = some (.int .i64 pr.len) := by rw [HB5.out.cell]; rfl
   have b2 : w3.cell? ⟨gr, 2, none⟩ = some (.int .i64 pr.how) := by rw [HB5.out.cell]; rfl
   have b3 : w3.cell? ⟨gr, 3, none⟩ = some (.int .i64 pr.lo) := by rw [HB5.out.cell]; rfl
   have b4 : w3.cell? ⟨gr, 4, none⟩ = some (.int .i64 pr.hi) := by rw [HB5.out.cell]; rfl
   have b5 : w3.cell? ⟨gr, 5, none⟩ = some (.slice pA pr.want.length pc) := by rw [HB5.out.cell]; rfl
   have b6 : w3.cell? ⟨gr, 6, none⟩ = some (.bool pr.need) := by rw [HB5.out.cell]; rfl
   clear hw3 hgr hk3 x0 x1 x2 x3 x4 x5 x6
   go_wp2_with (at_builtin; refine y0d ?_)
   unfold Hid
   refine y2c rfl (.tmp 16) (.tmp 32) rfl w.heap.size (.slice A2 qs.length c2) qs (.slice pA pr.want.length pc) pr rfl rfl rfl HR5.out.own (by omega) HR5.out.kept.size ?_
   intro A6 c6 w6 hown6 hk6 hob6
   have HR6 := xhd (HR5.out.more HD5.out hown6 hk6 hob6)
   have lw : wrap64 ((qs.length : Int) + 1) = ((qs.length + 1 : Nat) : Int) := by rw [IntWalk.wrap64_in _ (by omega)]; omega
   clear hown6 hk6 hob6 b0 b1 b2 b3 b4 b5 b6
   go_wp2_with fail
   go_roundw
   case rel => exact ⟨qs.length + 1, by omega, by go_num, qs ++ [(.slice pA pr.want.length pc, pr)], by rw [HTK.out, ← HQS.out]; simp [y0e], by simp, HR6.out⟩
   case measure => simp [intOf] <;> omega
  ·have hkk : qs.length = us.length := by omega
   have d1 : decide ((qs.length : Int) < (us.length : Int)) = false := decide_eq_false (by omega)
   have d2 : decide (qs.length < us.length) = false := decide_eq_false (by omega)
   have HE := xhd (show y0e qs = y0e us by rw [HQS.out]; exact List.take_of_length_le (by simp; omega))
   go_wp2
   go_ret
   exact ⟨_, qs, rfl, HE.out, HRD.out⟩
end Go.Proofs.YtmgicbckgpdkcaaGreatDoor
