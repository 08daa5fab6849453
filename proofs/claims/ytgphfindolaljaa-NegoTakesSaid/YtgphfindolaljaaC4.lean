/- Package slices' IndexFunc over rules; package nego: find, findRule, has. -/
import Derived.Test.YtgphfindolaljaaC3
namespace Go.Proofs.Ytgphfindolaljaa
set_option maxRecDepth 100000
set_option maxHeartbeats 8000000
open _root_.Go.Lib renaming hid → xhd
open List renaming setIfInBounds_toArray → xqA, getElem_toArray → xqB, getElem_cons_succ → xqC, getElem_cons_zero → xqD, set_cons_succ → xqE, set_cons_zero → xqF
open Go.RowKit
abbrev y06 (ps : List (Value × Pure.Rule)) : List Pure.Rule := ps.map Prod.snd
theorem y5a (F : Nat → Prop) (x : Value) (ps : List (Value × Pure.Rule)) (n : Nat) (cap : Value) (p : Pure.Rule → Bool) (w : World) (hx : RRow w F x ps) (hn : ∀ args w, Sem.run Try.prog (callFunc n args) w = .ok (.enter n args) w)
  (hf : ∀ q ∈ ps, ∀ w', Keeps y02 w w' → Calls Try.prog n #[y0g q, cap] w' fun e w'' => e = .returned (.bool (p q.2)) ∧ Keeps y02 w' w'') :
  Calls Try.prog 71 #[x, .func (.func n) #[] #[cap]] w fun e w' => Placed w e w' p (y06 ps) := by
 obtain ⟨A, cA, rfl, hc⟩ := hx.form
 have hm := hx.out.2.1
 unfold maxLen at hm
 have HX := xhd hx
 have HF := xhd hf
 clear hx hf
 go_enter Try.func71, Try.ntmps71
 go_wp2_with fail
 go_loopw [8] (fun i wr => ∃ k : Nat, k ≤ ps.length ∧ i = .int .i64 (k : Int) ∧ (∀ y ∈ (y06 ps).take k, p y = false) ∧ Keeps y02 w wr) (fun i _ => ps.length - (intOf i).toNat)
 case atStart => exact ⟨0, by omega, rfl, by simp, Keeps.refl _ _⟩
 case round =>
  obtain ⟨k, hk, rfl, hT, hK⟩ := hrel
  have HT := xhd hT
  have HK := xhd hK
  by_cases hkl : k < ps.length
  ·have i0 : (0 : Int) ≤ (k : Int) := by omega
   have i1 : (k : Int) < (ps.length : Int) := by omega
   obtain ⟨b, o, A1, c1, r0, rfl, hFp, hcell, hra, hpa⟩ := (HX.out.keeps hK (fun _ _ h => h)).pick k hkl
   have x0 : wr.cell? ⟨b, o + k * 7, none⟩ = some (.int .i64 r0.type) := hcell 0 _ rfl
   have x1 := hcell 1 _ rfl
   have x2 := hcell 2 _ rfl
   have x3 := hcell 3 _ rfl
   have x4 := hcell 4 _ rfl
   have x5 := hcell 5 _ rfl
   have x6 := hcell 6 _ rfl
   have HC := xhd (HF.out _ (List.mem_of_getElem? hpa) wr hK)
   have HPA := xhd (show (y06 ps)[k]? = some r0 by rw [List.getElem?_map, hpa]; rfl)
   obtain ⟨r, hr⟩ : ∃ r, r = p r0 := ⟨_, rfl⟩
   have HC := xhd (hr ▸ HC.out)
   have HR := xhd hr
   clear hT hK hra hpa hr hcell
   go_wp2_with fail
   refine HC.out.mono ?_
   rintro e w1 ⟨rfl, hk1⟩
   have HK1 := xhd (HK.out.trans hk1)
   clear HC hk1 x0 x1 x2 x3 x4 x5 x6
   cases r
   ·have HT2 := xhd (show ∀ y ∈ (y06 ps).take (k + 1), p y = false by
     rw [Pure.take_snoc _ k _ HPA.out]
     intro y hy
     rcases List.mem_append.1 hy with hy | hy
     ·exact HT.out y hy
     ·rw [List.mem_singleton.1 hy]; exact HR.out.symm)
    clear HT
    go_wp2_with fail
    go_roundw
    case rel => exact ⟨k + 1, by omega, by go_num, HT2.out, HK1.out⟩
    case measure => simp [intOf]; omega
   ·go_wp2_with fail
    go_ret
    exact ⟨_, rfl, .inr ⟨k, r0, rfl, HPA.out, HR.out.symm, HT.out⟩, HK1.out⟩
  ·have hkk : k = ps.length := by omega
   have HN := xhd (show ∀ y ∈ y06 ps, p y = false by
    have h := HT.out
    rwa [List.take_of_length_le (by simp; omega)] at h)
   subst hkk
   clear hkl hk hT HT hK
   go_wp2
   go_ret
   exact ⟨_, rfl, .inl ⟨rfl, HN.out⟩, HK.out⟩
theorem y31 {P : Program} {f : FuncId} {fn : Func} {c : Code} (hf : P.funcs[f]? = some fn) (hname : (fn.name == "runtime.NumGoroutine") = false) (hb : fn.body = some c) (args : Array Value) (w : World) :
  Sem.run P (callFunc f args) w = .ok (.enter f args) w := by
 have h1 : fn.name ≠ "runtime.NumGoroutine" := by simpa using hname
 simp [callFunc, hf, h1, hb]
theorem run_find1 (args : Array Value) (w : World) : Sem.run Try.prog (callFunc 51 args) w = .ok (.enter 51 args) w := y31 Try.func51 (by kernel_rfl) rfl args w
theorem run_find2 (args : Array Value) (w : World) : Sem.run Try.prog (callFunc 72 args) w = .ok (.enter 72 args) w := y31 Try.func72 (by kernel_rfl) rfl args w
theorem find1_any (q : Value × Pure.Opt) (g : Nat) (t : Int) (w : World) (hg : w.cell? ⟨g, 0, none⟩ = some (.int .i64 t)) :
  Calls Try.prog 51 #[optV q, .pointer (some ⟨g, 0, none⟩)] w fun e w' => e = .returned (.bool (decide (q.2.1 = t))) ∧ Keeps y02 w w' := by
 obtain ⟨v, s, l⟩ := q
 have hg' : ∀ o, (w.alloc o).cell? ⟨g, 0, none⟩ = some (.int .i64 t) := fun o => y0y hg
 clear hg
 go_enter Try.func51, Try.ntmps51
 go_wp2_with fail
 go_ret
 exact ⟨rfl, (Keeps.refl y02 w).alloc _⟩
theorem find2_any (q : Value × Pure.Rule) (g : Nat) (t : Int) (w : World) (hg : w.cell? ⟨g, 0, none⟩ = some (.int .i64 t)) :
  Calls Try.prog 72 #[y0g q, .pointer (some ⟨g, 0, none⟩)] w fun e w' => e = .returned (.bool (decide (q.2.type = t))) ∧ Keeps y02 w w' := by
 obtain ⟨v, r⟩ := q
 have hg' : ∀ o, (w.alloc o).cell? ⟨g, 0, none⟩ = some (.int .i64 t) := fun o => y0y hg
 clear hg
 go_enter Try.func72, Try.ntmps72
 go_wp2_with fail
 go_ret
 exact ⟨rfl, (Keeps.refl y02 w).alloc _⟩
theorem box_cell (w : World) (v : Value) (t : TypeId) : (w.alloc (.cells #[v] t)).cell? ⟨w.heap.size, 0, none⟩ = some v := by rw [(Blk.new w t #[v]).cell]; rfl
theorem y3r (F : Nat → Prop) (x : Value) (ps : List (Value × Pure.Opt)) (t : Int) (w : World) (hx : ORow w F x ps) :
  Calls Try.prog 30 #[x, .int .i64 t] w fun e w' => Placed w e w' (fun o => decide (o.1 = t)) (y01 ps) := by
 have hc := box_cell w (.int .i64 t) 3
 have hk := (Keeps.refl y02 w).alloc (.cells #[.int .i64 t] 3)
 have HI := xhd (y2n F x ps 51 (.pointer (some ⟨w.heap.size, 0, none⟩)) (fun o => decide (o.1 = t)) (w.alloc (.cells #[.int .i64 t] 3)) (hx.keeps hk (fun _ _ h => h)) run_find1
  (fun q _ w' k => find1_any q _ t w' (y0a hc k)))
 have HK := xhd hk
 clear hx hc hk
 go_enter Try.func30, Try.ntmps30
 go_wp2_with fail
 refine HI.out.mono ?_
 rintro e w1 ⟨i, rfl, hp, hk⟩
 have HP := xhd hp
 have HK1 := xhd (HK.out.trans hk)
 clear hp hk HI HK
 go_wp2_with fail
 go_ret
 exact ⟨i, rfl, HP.out, HK1.out⟩
theorem y2s (F : Nat → Prop) (x : Value) (ps : List (Value × Pure.Rule)) (t : Int) (w : World) (hx : RRow w F x ps) :
  Calls Try.prog 49 #[x, .int .i64 t] w fun e w' => Placed w e w' (fun r => decide (r.type = t)) (y06 ps) := by
 have hc := box_cell w (.int .i64 t) 3
 have hk := (Keeps.refl y02 w).alloc (.cells #[.int .i64 t] 3)
 have HI := xhd (y5a F x ps 72 (.pointer (some ⟨w.heap.size, 0, none⟩)) (fun r => decide (r.type = t)) (w.alloc (.cells #[.int .i64 t] 3)) (hx.keeps hk (fun _ _ h => h)) run_find2
  (fun q _ w' k => find2_any q _ t w' (y0a hc k)))
 have HK := xhd hk
 clear hx hc hk
 go_enter Try.func49, Try.ntmps49
 go_wp2_with fail
 refine HI.out.mono ?_
 rintro e w1 ⟨i, rfl, hp, hk⟩
 have HP := xhd hp
 have HK1 := xhd (HK.out.trans hk)
 clear hp hk HI HK
 go_wp2_with fail
 go_ret
 exact ⟨i, rfl, HP.out, HK1.out⟩
theorem y6j : (Try.prog.info? 40).map (·.size) = some 2 := by kernel_rfl
theorem nrule_info : (Try.prog.info? 58).map (·.size) = some 7 := by kernel_rfl
theorem y0l {P : Program} {fn : Func} {p : Tmp} {ty : TypeId} (h : fn.results = #[.cell p ty]) (tmps : Array Value) (w : World) (g : Nat) (t : TypeId) (cs : Array Value) (fr : Nat × Nat) (d : TypeDesc)
  (hp : tmps.getD p undef = .pointer (some ⟨g, 0, none⟩)) (hg : w.heap[g]? = some (.cells cs t fr))
  (hu : P.underlying ty = some d) (hd : (match d with | .struct _ | .array _ _ => true | _ => false) = true) (hi : (P.info? ty).map (·.size) = some cs.size) :
  (results fn tmps).run P w = .ok (.agg cs) w := by
 have hp' : tmps[p]?.getD undef = .pointer (some ⟨g, 0, none⟩) := by simpa using hp
 simp [results, h, hp', asAddr, run_loadVar_row w g t ty cs fr d hg hu hd hi]
theorem y2h (F : Nat → Prop) (v : Value) (t : Int) (D : List UInt8) (w : World) (hr : Row w F 1 v D.length (u8s D)) (hl : D.length ≤ 1000000) :
  Calls Try.prog 38 #[optV (v, (t, D))] w fun e w' => ∃ A c, e = .returned (.agg #[.int .i64 t, .slice A D.length c]) ∧ Row w' (fun b => w.heap.size ≤ b) 1 (.slice A D.length c) D.length (u8s D) ∧ Keeps y02 w w' := by
 obtain ⟨A, c, rfl, _⟩ := hr.form
 have HR := xhd hr
 have HI := xhd y6j
 clear hr
 obtain ⟨g, hg⟩ : ∃ g, g = w.heap.size := ⟨_, rfl⟩
 go_enter Try.func38, Try.ntmps38
 go_upto_region 1 with fail
 generalize hw1 : (w.alloc _).alloc _ = w1
 rw [← hg]
 have HK := xhd (show Keeps y02 w w1 by rw [← hw1]; exact ((Keeps.refl y02 w).alloc _).alloc _)
 have HSZ := xhd (show w1.heap.size = g + 2 by rw [← hw1, hg]; simp)
 have HC := xhd (show w1.cell? ⟨g, 0, none⟩ = some (.int .i64 t) ∧ w1.cell? ⟨g, 1, none⟩ = some (.slice A D.length c) ∧ Blk w1 (g + 1) 40 #[.int .i64 0, .slice none 0 0] by
  have hb : Blk w1 g 40 #[.int .i64 t, .slice A D.length c] := by rw [← hw1, hg]; exact (Blk.new w _ _).alloc _
  refine ⟨by rw [hb.cell]; rfl, by rw [hb.cell]; rfl, ?_⟩
  rw [← hw1, show g + 1 = (w.alloc (.cells #[.int .i64 t, .slice A D.length c] 40)).heap.size by rw [hg]; simp]
  exact Blk.new _ _ _)
 have HG := xhd hg
 clear hw1 hg
 refine y0e (fun w' => w'.cell? ⟨g, 0, none⟩ = some (.int .i64 t) ∧ w'.cell? ⟨g, 1, none⟩ = some (.slice A D.length c) ∧ Blk w' (g + 1) 40 #[.int .i64 0, .slice none 0 0]) 6 7 rfl (by kernel_rfl) ⟨HC.out.1, HC.out.2.1, HC.out.2.2⟩ (fun hHeld => ?_)
 have HSW := hHeld
 clear hHeld
 have HK0d := xhd (HK.out.drew)
 refine y00 (i := 0) rfl (by kernel_rfl) (fun _ _ _ h => h) (Or.inl ⟨by rfl, by intro w hSw; obtain ⟨s0, s1, s2⟩ := hSw; go_simp; try with_reducible rfl⟩) HSW.out ?_
 simp only [Act.put, xqA, xqB, xqD, xqE, xqF]
 refine y00 (i := 1) rfl (by kernel_rfl) (fun _ _ _ h => h) (Or.inl ⟨by rfl, by intro w hSw; obtain ⟨s0, s1, s2⟩ := hSw; go_simp; try with_reducible rfl⟩) HSW.out ?_
 simp only [Act.put, xqA, xqB, xqC, xqD, xqE, xqF]
 refine y00 (i := 2) rfl (by kernel_rfl) (fun _ _ _ h => h) (Or.inl ⟨by rfl, by intro w hSw; obtain ⟨s0, s1, s2⟩ := hSw; go_simp; try with_reducible rfl⟩) HSW.out ?_
 simp only [Act.put, xqA, xqB, xqC, xqD, xqE, xqF]
 refine y00 (i := 3) rfl (by kernel_rfl) (fun _ _ _ h => h) (Or.inl ⟨by rfl, by intro w hSw; obtain ⟨s0, s1, s2⟩ := hSw; go_simp; try with_reducible rfl⟩) HSW.out ?_
 simp only [Act.put, xqA, xqB, xqC, xqD, xqE, xqF]
 refine y05 (i := 4) (by kernel_rfl) rfl (fun K hK => ?_)
 try rw [if_pos (by rfl)]
 go_simp
 refine (y19 F (.slice A D.length c) _ D _ (HR.out.keeps HK0d.out (fun _ _ h => h)) (by omega)).mono ?_
 rintro e w2 ⟨u, rfl, hu, hb⟩
 obtain ⟨A2, cc2, rfl⟩ := y0b hu
 have hk2 := Keeps.new hb
 have HK2 := xhd (HK0d.out.trans hk2)
 have HU := xhd ((Row.of_own hu).mono (G := fun b => w1.heap.size ≤ b) (fun b hb => y0c hu b hb))
 have HS2 := xhd (And.intro (y0a HSW.out.1 hk2) (And.intro (y0a HSW.out.2.1 hk2) (HSW.out.2.2.keeps hk2 (fun h => h))))
 clear hu hb hk2
 refine hK.out _ _ (fun _ => HS2.out) ?_
 clear hK K
 try simp only [Act.put, xqA, Nat.reduceAdd, xqB, xqC, xqD, xqE, xqF]
 refine y00 (i := 5) rfl (by kernel_rfl) (fun _ _ _ h => h) (Or.inl ⟨by rfl, by intro w hSw; obtain ⟨s0, s1, s2⟩ := hSw; go_simp; try with_reducible rfl⟩) HS2.out ?_
 simp only [Act.put, xqA, xqB, xqC, xqD, xqE, xqF]
 have hB := HS2.out.2.2
 have HZ := xhd ((hB.set 0 (.int .i64 t)).set 1 (.slice A2 D.length cc2))
 have HKS := xhd ((HK2.out.store (g + 1) 0 (fun h => by have := HG.out; omega) (.int .i64 t)).store (g + 1) 1 (fun h => by have := HG.out; omega) (.slice A2 D.length cc2))
 have HRW := xhd ((HU.out.keeps (((Keeps.refl (only (g + 1)) w2).store (g + 1) 0 (fun _ => rfl) (.int .i64 t)).store (g + 1) 1 (fun _ => rfl) (.slice A2 D.length cc2)) (fun b hb e => by have e : b = g + 1 := e; have := HSZ.out; omega)).mono (G := fun b => w.heap.size ≤ b) (fun b hb => by have := HSZ.out; have := HG.out; omega))
 have o0 : w2.cell? ⟨g + 1, 0, none⟩ = some (.int .i64 0) := by rw [hB.cell]; rfl
 have o1 : w2.cell? ⟨g + 1, 1, none⟩ = some (.slice none 0 0) := by rw [hB.cell]; rfl
 have f0 := hB.frozen 0
 have f1 := hB.frozen 1
 clear hB
 refine y05 (i := 6) (by kernel_rfl) rfl (fun K hK => ?_)
 go_simp
 refine hK.out _ _ (fun h => absurd rfl h) ?_
 clear hK K
 refine y0d (by kernel_rfl) ?_ _
 go_wp2_with fail
 refine bodyPost_ret (y0l rfl _ _ (g + 1) 40 _ (0, 0) _ rfl HZ.out Try.underlying40 rfl (by rw [HI.out]; rfl)) rfl ?_
 exact ⟨A2, cc2, rfl, HRW.out, HKS.out⟩
theorem y16 (F : Nat → Prop) (x : Value) (ps : List (Value × Pure.Opt)) (w : World) (hx : ORow w F x ps) (hl : ps.length ≤ 100000) (hd : ∀ p ∈ ps, p.2.2.length ≤ 100000) :
  Calls Try.prog 21 #[x] w fun e w' => ∃ u, ∃ qs : List (Value × Pure.Opt), e = .returned u ∧ y01 qs = y01 ps ∧ Read w w' u qs := by
 obtain ⟨X, cx, rfl, _⟩ := hx.form
 have HX := xhd hx
 have HDL := xhd hd
 clear hx hd
 obtain ⟨cs, hrun, hrd0⟩ := made_read w ps.length (by omega)
 obtain ⟨w1, hw1⟩ : ∃ w1, w1 = w.alloc (.cells cs 40) := ⟨_, rfl⟩
 rw [← hw1] at hrun hrd0
 have HRD0 := xhd hrd0
 clear hrd0 hw1
 go_enter Try.func21, Try.ntmps21
 go_wp2_with fail
 go_loopw [3, 11] (fun v i wr => ∃ k : Nat, k ≤ ps.length ∧ i = .int .i64 (k : Int) ∧ ∃ qs : List (Value × Pure.Opt), y01 qs = (y01 ps).take k ∧ Read w wr v qs) (fun _ i _ => ps.length - (intOf i).toNat)
 case atStart => exact ⟨0, by omega, rfl, [], rfl, HRD0.out⟩
 case round =>
  clear hrun HRD0
  obtain ⟨k, hk, rfl, qs, hqs, hrd⟩ := hrel
  have hql : qs.length = k := by
   have := congrArg List.length hqs
   simp at this
   omega
  obtain ⟨A2, c2, rfl⟩ := y0b hrd.own
  subst hql
  have HQS := xhd hqs
  have HRD := xhd hrd
  clear hqs hrd
  by_cases hkl : qs.length < ps.length
  ·have i0' : (0 : Int) ≤ (qs.length : Int) := by omega
   have i1 : (qs.length : Int) < (ps.length : Int) := by omega
   have d1 : decide ((qs.length : Int) < (ps.length : Int)) = true := decide_eq_true (by omega)
   have d2 : decide (qs.length < ps.length) = true := decide_eq_true hkl
   obtain ⟨bx, ox, A1, c1, t, D, rfl, hFb, x0, x1, hra, hpa⟩ := (HX.out.keeps (Keeps.new HRD.out.below) (fun _ _ h => h)).pick qs.length hkl
   have hDl : D.length ≤ 100000 := HDL.out _ (List.mem_of_getElem? hpa)
   have HTK := xhd (show (y01 ps).take (qs.length + 1) = (y01 ps).take qs.length ++ [(t, D)] from y21 _ qs.length _ (by rw [List.getElem?_map, hpa]; rfl))
   have HRA := xhd hra
   clear hra hpa
   go_upto_region 5 with fail
   obtain ⟨wb, hwb⟩ : ∃ wb, wb = wr.alloc (.cells #[.int .i64 t, .slice A1 D.length c1] 40) := ⟨_, rfl⟩
   obtain ⟨gb, hgb⟩ : ∃ gb, gb = wr.heap.size := ⟨_, rfl⟩
   rw [← hwb, ← hgb]
   have hkb : Keeps y02 wr wb := by rw [hwb]; exact (Keeps.refl _ wr).alloc _
   have hbb : Blk wb gb 40 #[.int .i64 t, .slice A1 D.length c1] := by rw [hwb, hgb]; exact Blk.new wr _ _
   have y0 : wb.cell? ⟨gb, 0, none⟩ = some (.int .i64 t) := by rw [hbb.cell]; rfl
   have y1 : wb.cell? ⟨gb, 1, none⟩ = some (.slice A1 D.length c1) := by rw [hbb.cell]; rfl
   have HCP := xhd (y2h F (.slice A1 D.length c1) t D wb (HRA.out.keeps hkb (fun _ _ h => h)) (by omega))
   have HKb := xhd hkb
   clear hwb hgb hbb hkb x0 x1
   go_wp2_with fail
   refine HCP.out.mono ?_
   rintro e w2 ⟨A3, c3, rfl, hu, hk2⟩
   have hkr : Keeps y02 wr w2 := HKb.out.trans hk2
   have hR2 := HRD.out.keeps hkr
   have HU := xhd (HRD.out.fresh (hu.mono (G := fun b => wr.heap.size ≤ b) (fun b hb => Nat.le_trans HKb.out.size hb)))
   have HR2 := xhd hR2
   clear hu hk2 hkr hR2 HCP y0 y1
   go_wp2_with (at_builtin; refine y0j ?_)
   unfold Hid
   refine y0v rfl (.tmp 15) (.tmp 18) rfl _ qs A3 c3 t D rfl rfl HR2.out (by omega) HU.out ?_
   intro A4 c4 w3 hread hkw
   have HRead := xhd hread
   clear hread hkw
   go_wp2_with fail
   go_roundw
   case rel => exact ⟨qs.length + 1, by omega, by go_num, _, by rw [HTK.out, ← HQS.out]; simp [y01], HRead.out⟩
   case measure => simp [intOf] <;> omega
  ·have hkk : qs.length = ps.length := by omega
   have d1 : decide ((qs.length : Int) < (ps.length : Int)) = false := decide_eq_false (by omega)
   have d2 : decide (qs.length < ps.length) = false := decide_eq_false (by omega)
   have HE := xhd (show y01 qs = y01 ps by rw [HQS.out]; exact List.take_of_length_le (by simp; omega))
   go_wp2
   go_ret
   exact ⟨_, qs, rfl, HE.out, HRD.out⟩
def Ruled (w : World) (e : Ending) (w' : World) (ps : List (Value × Pure.Rule)) (t : Int) : Prop :=
 ∃ (A : Option Addr) (c : Nat) (r : Pure.Rule), e = .returned (y0g (.slice A r.want.length c, r)) ∧ r = Pure.ruleFor (y06 ps) t ∧ Row w' (fun _ => True) 1 (.slice A r.want.length c) r.want.length (u8s r.want) ∧ ((∃ p ∈ ps, p.2 = r) ∨ r = Pure.deadRule) ∧ Keeps y02 w w'
theorem y1p (F : Nat → Prop) (x : Value) (ps : List (Value × Pure.Rule)) (t : Int) (w : World) (hx : RRow w F x ps) :
  Calls Try.prog 31 #[x, .int .i64 t] w fun e w' => Ruled w e w' ps t := by
 obtain ⟨X, cx, rfl, _⟩ := hx.form
 have hm := hx.out.2.1
 unfold maxLen at hm
 have HX := xhd hx
 have HI := xhd nrule_info
 clear hx
 obtain ⟨g, hg⟩ : ∃ g, g = w.heap.size := ⟨_, rfl⟩
 go_enter Try.func31, Try.ntmps31
 go_upto_region 1 with fail
 generalize hw1 : w.alloc _ = w1
 rw [← hg]
 have hB : Blk w1 g 58 #[.int .i64 0, .int .i64 0, .int .i64 0, .int .i64 0, .int .i64 0, .slice none 0 0, .bool false] := by rw [← hw1, hg]; exact Blk.new w _ _
 have HB := xhd hB
 have hK : Keeps y02 w w1 := by rw [← hw1]; exact (Keeps.refl _ w).alloc _
 have HK := xhd hK
 have HG := xhd hg
 have HF := xhd (y2s F (.slice X ps.length cx) ps t w1 (HX.out.keeps hK (fun _ _ h => h)))
 clear hw1 hg hB hK
 go_wp2_with fail
 refine HF.out.mono ?_
 rintro e w2 ⟨i, rfl, hp, hk2⟩
 have HK2 := xhd (HK.out.trans hk2)
 have HB2 := xhd (HB.out.keeps hk2 (fun h => h))
 have HX2 := xhd (HX.out.keeps HK2.out (fun _ _ h => h))
 have z0 : w2.cell? ⟨g, 0, none⟩ = some (.int .i64 0) := by rw [HB2.out.cell]; rfl
 have z1 : w2.cell? ⟨g, 1, none⟩ = some (.int .i64 0) := by rw [HB2.out.cell]; rfl
 have z2 : w2.cell? ⟨g, 2, none⟩ = some (.int .i64 0) := by rw [HB2.out.cell]; rfl
 have z3 : w2.cell? ⟨g, 3, none⟩ = some (.int .i64 0) := by rw [HB2.out.cell]; rfl
 have z4 : w2.cell? ⟨g, 4, none⟩ = some (.int .i64 0) := by rw [HB2.out.cell]; rfl
 have z5 : w2.cell? ⟨g, 5, none⟩ = some (.slice none 0 0) := by rw [HB2.out.cell]; rfl
 have z6 : w2.cell? ⟨g, 6, none⟩ = some (.bool false) := by rw [HB2.out.cell]; rfl
 have f0 := HB2.out.frozen 0
 have f1 := HB2.out.frozen 1
 have f2 := HB2.out.frozen 2
 have f3 := HB2.out.frozen 3
 have f4 := HB2.out.frozen 4
 have f5 := HB2.out.frozen 5
 have f6 := HB2.out.frozen 6
 rcases hp.find with ⟨rfl, hnone⟩ | ⟨k, r, rfl, hkl, hkr, hsome⟩
 ·have HE := xhd (show Pure.ruleFor (ps.map Prod.snd) t = Pure.deadRule by unfold Pure.ruleFor Pure.ruleOf; rw [hnone]; rfl)
  have hB := HB2.out
  have HZS := xhd (((((((hB.set 0 (.int .i64 0)).set 1 (.int .i64 0)).set 2 (.int .i64 0)).set 3 (.int .i64 0)).set 4 (.int .i64 0)).set 5 (.slice none 0 0)).set 6 (.bool false))
  have HKS := xhd (((((((HK2.out.store g 0 (fun h => by have := HG.out; omega) (.int .i64 0)).store g 1 (fun h => by have := HG.out; omega) (.int .i64 0)).store g 2 (fun h => by have := HG.out; omega) (.int .i64 0)).store g 3 (fun h => by have := HG.out; omega) (.int .i64 0)).store g 4 (fun h => by have := HG.out; omega) (.int .i64 0)).store g 5 (fun h => by have := HG.out; omega) (.slice none 0 0)).store g 6 (fun h => by have := HG.out; omega) (.bool false))
  clear hB hp hnone hk2 HF HB HK
  go_wp2_with fail
  refine bodyPost_ret (y0l rfl _ _ g 58 _ (0, 0) _ rfl HZS.out Try.underlying58 rfl (by rw [HI.out]; rfl)) rfl ?_
  exact ⟨none, 0, Pure.deadRule, rfl, HE.out.symm, Row.nil _ _ _, .inr rfl, HKS.out⟩
 ·have hkp : k < ps.length := by simpa using hkl
  obtain ⟨pb, po, A5, c5, r', rfl, hFp, hcell, hwant, hpa⟩ := HX2.out.pick k hkp
  have hrr : r' = r := by
   have h1 : (ps.map Prod.snd)[k]? = some r' := by rw [List.getElem?_map, hpa]; rfl
   rw [hkr] at h1
   injection h1 with h1
   exact h1.symm
  subst hrr
  have x0 : w2.cell? ⟨pb, po + k * 7, none⟩ = some (.int .i64 r'.type) := hcell 0 _ rfl
  have x1 := hcell 1 _ rfl
  have x2 := hcell 2 _ rfl
  have x3 := hcell 3 _ rfl
  have x4 := hcell 4 _ rfl
  have x5 := hcell 5 _ rfl
  have x6 := hcell 6 _ rfl
  have i0 : (0 : Int) ≤ (k : Int) := by omega
  have i1 : (k : Int) < (ps.length : Int) := by omega
  have HE := xhd (show Pure.ruleFor (ps.map Prod.snd) t = r' by unfold Pure.ruleFor Pure.ruleOf; rw [hsome]; rfl)
  have HPA := xhd (List.mem_of_getElem? hpa)
  have hB := HB2.out
  have HZS := xhd (((((((hB.set 0 (.int .i64 r'.type)).set 1 (.int .i64 r'.len)).set 2 (.int .i64 r'.how)).set 3 (.int .i64 r'.lo)).set 4 (.int .i64 r'.hi)).set 5 (.slice A5 r'.want.length c5)).set 6 (.bool r'.need))
  have HKS := xhd (((((((HK2.out.store g 0 (fun h => by have := HG.out; omega) (.int .i64 r'.type)).store g 1 (fun h => by have := HG.out; omega) (.int .i64 r'.len)).store g 2 (fun h => by have := HG.out; omega) (.int .i64 r'.how)).store g 3 (fun h => by have := HG.out; omega) (.int .i64 r'.lo)).store g 4 (fun h => by have := HG.out; omega) (.int .i64 r'.hi)).store g 5 (fun h => by have := HG.out; omega) (.slice A5 r'.want.length c5)).store g 6 (fun h => by have := HG.out; omega) (.bool r'.need))
  have HW := xhd ((HX.out.rows _ HPA.out).keeps HKS.out (fun _ _ h => h))
  clear hB hp hsome hk2 HF HB HK hcell hwant hpa hkr hkl
  go_wp2_with fail
  refine bodyPost_ret (y0l rfl _ _ g 58 _ (0, 0) _ rfl HZS.out Try.underlying58 rfl (by rw [HI.out]; rfl)) rfl ?_
  exact ⟨A5, c5, r', rfl, HE.out.symm, HW.out.mono (fun _ _ => trivial), .inl ⟨_, HPA.out, rfl⟩, HKS.out⟩
namespace Pure
def Rule.nearTo (r : Rule) (n : Nat) : Nat := if r.how = 4 then n &&& r.hi.toNat else min (max n r.lo.toNat) r.hi.toNat
def Rule.Ok (r : Rule) : Prop := 1 ≤ r.len → r.len ≤ 4 → 0 ≤ r.lo ∧ r.lo ≤ r.hi ∧ r.hi < 4294967296
end Pure
theorem y3z (v : Value) (r : Pure.Rule) (w : World) : Calls Try.prog 70 #[y0g (v, r)] w fun e w' => e = .returned (.bool (decide (1 ≤ r.len ∧ r.len ≤ 4))) ∧ Keeps y02 w w' := by
 have HK0 := xhd ((Keeps.refl y02 w).alloc (.cells (y04 (v, r)).toArray 58))
 by_cases h1 : 1 ≤ r.len
 ·have d1 : decide (1 ≤ r.len) = true := decide_eq_true h1
  have HD := xhd (show decide (1 ≤ r.len ∧ r.len ≤ 4) = decide (r.len ≤ 4) by simp [h1])
  clear h1
  go_enter Try.func70, Try.ntmps70
  go_wp2_with fail
  go_ret
  exact ⟨by rw [HD.out]; rfl, HK0.out⟩
 ·have d1 : decide (1 ≤ r.len) = false := decide_eq_false h1
  have HD := xhd (show decide (1 ≤ r.len ∧ r.len ≤ 4) = false by simp [h1])
  clear h1
  go_enter Try.func70, Try.ntmps70
  go_wp2_with fail
  go_ret
  exact ⟨by rw [HD.out]; rfl, HK0.out⟩
theorem y2t (v : Value) (r : Pure.Rule) (A : Option Addr) (n c : Nat) (w : World) (_ : n ≤ maxLen) : Calls Try.prog 53 #[y0g (v, r), .slice A n c] w fun e w' => e = .returned (.bool (decide (1 ≤ r.len ∧ r.len ≤ 4 ∧ (n : Int) = r.len))) ∧ Keeps y02 w w' := by
 have hb := Blk.new w 58 (y04 (v, r)).toArray
 have HK0 := xhd ((Keeps.refl y02 w).alloc (.cells (y04 (v, r)).toArray 58))
 have HC := xhd (y3z v r (w.alloc (.cells (y04 (v, r)).toArray 58)))
 have hc1 : (w.alloc (.cells (y04 (v, r)).toArray 58)).cell? ⟨w.heap.size, 1, none⟩ = some (.int .i64 r.len) := by rw [hb.cell]; rfl
 by_cases h : 1 ≤ r.len ∧ r.len ≤ 4
 ·rw [decide_eq_true h] at HC
  have HD := xhd (show decide (1 ≤ r.len ∧ r.len ≤ 4 ∧ (n : Int) = r.len) = decide ((n : Int) = r.len) by simp [h.1, h.2])
  clear h hb
  go_enter Try.func53, Try.ntmps53
  go_wp2_with fail
  refine HC.out.mono ?_
  rintro e w1 ⟨rfl, hk⟩
  have c1 := y0a hc1 hk
  have HK1 := xhd (HK0.out.trans hk)
  clear hk HC hc1
  go_wp2_with fail
  go_ret
  exact ⟨by rw [HD.out]; rfl, HK1.out⟩
 ·rw [decide_eq_false h] at HC
  have HD := xhd (show decide (1 ≤ r.len ∧ r.len ≤ 4 ∧ (n : Int) = r.len) = false by rw [decide_eq_false_iff_not]; exact fun h' => h ⟨h'.1, h'.2.1⟩)
  clear h hb hc1
  go_enter Try.func53, Try.ntmps53
  go_wp2_with fail
  refine HC.out.mono ?_
  rintro e w1 ⟨rfl, hk⟩
  have HK1 := xhd (HK0.out.trans hk)
  clear hk HC
  go_wp2_with fail
  go_ret
  exact ⟨by rw [HD.out]; rfl, HK1.out⟩
theorem y3s (v : Value) (r : Pure.Rule) (n : Nat) (w : World) (hn : n < 4294967296) (hr : 0 ≤ r.lo ∧ r.lo ≤ r.hi ∧ r.hi < 4294967296) :
  Calls Try.prog 55 #[y0g (v, r), .int .i64 (n : Int)] w fun e w' => e = .returned (.int .i64 (r.nearTo n : Nat)) ∧ Keeps y02 w w' := by
 have hb := Blk.new w 58 (y04 (v, r)).toArray
 have HK0 := xhd ((Keeps.refl y02 w).alloc (.cells (y04 (v, r)).toArray 58))
 by_cases h4 : r.how = 4
 ·have q4 : (r.how == 4) = true := by rw [beq_iff_eq]; exact h4
  have HN := xhd (show r.nearTo n = n &&& r.hi.toNat by unfold Pure.Rule.nearTo; rw [if_pos h4])
  have ha : bits .and .i64 (n : Int) r.hi = ((n &&& r.hi.toNat : Nat) : Int) := by
   rw [i64_and _ _ (by omega) (by omega) (by omega) (by omega)]
   simp
  clear h4 hb hr
  go_enter Try.func55, Try.ntmps55
  go_wp2_with fail
  go_ret
  exact ⟨by rw [HN.out]; rfl, HK0.out⟩
 ·have q4 : (r.how == 4) = false := by rw [beq_eq_false_iff_ne]; exact h4
  have HN := xhd (show ((r.nearTo n : Nat) : Int) = min (max (n : Int) r.lo) r.hi by unfold Pure.Rule.nearTo; rw [if_neg h4]; omega)
  clear h4 hb hr
  go_enter Try.func55, Try.ntmps55
  go_wp2_with fail
  all_goals
   go_ret
   refine ⟨?_, HK0.out⟩
   rw [HN.out]
   show Ending.returned (Value.int IntKind.i64 _) = _
   congr 2
   first | omega | (split at * <;> omega) | trace_state
theorem y2b (F : Nat → Prop) (x : Value) (l : List UInt8) (w : World) (hr : Row w F 1 x l.length (u8s l)) (hl : l.length ≤ 4) :
  Calls Try.prog 56 #[x] w fun e w' => e = .returned (.int .i64 (Pure.bnum l : Nat)) ∧ w = w' := by
 obtain ⟨A, c, rfl, hc⟩ := hr.form
 have HR := xhd hr
 have HT := xhd (fun (k : Nat) (h : k ≤ l.length) => show Pure.bnum (l.take k) < 4294967296 from Pure.bnum_small (by rw [List.length_take]; omega))
 have HT3 := xhd (fun (k : Nat) (h : k < l.length) => show Pure.bnum (l.take k) < 16777216 from Nat.lt_of_lt_of_le (Pure.bnum_lt _) (show 256 ^ (l.take k).length ≤ 256 ^ 3 from Nat.pow_le_pow_right (by omega) (by rw [List.length_take]; omega)))
 clear hr
 go_enter Try.func56, Try.ntmps56
 go_wp2_with fail
 go_loopw [3, 8] (fun v i wr => ∃ k : Nat, k ≤ l.length ∧ i = .int .i64 (k : Int) ∧ v = .int .i64 (Pure.bnum (l.take k) : Nat) ∧ wr = w) (fun _ i _ => l.length - (intOf i).toNat)
 case atStart => exact ⟨0, by omega, rfl, rfl, rfl⟩
 case round =>
  obtain ⟨k, hk, rfl, rfl, rfl⟩ := hrel
  by_cases hkl : k < l.length
  ·have i0 : (0 : Int) ≤ (k : Int) := by omega
   have i1 : (k : Int) < (l.length : Int) := by omega
   obtain ⟨b, off, rfl, _, hcx⟩ := HR.out.cellAt (by omega)
   have b0 := hcx k _ (y2f l k hkl)
   have hx := (l.getD k 0).toNat_lt
   have hN := HT3.out k hkl
   have hsn : Pure.bnum (l.take (k + 1)) = Pure.bnum (l.take k) * 256 + (l.getD k 0).toNat := by
    rw [List.take_succ_eq_append_getElem hkl, Pure.bnum_snoc]
    simp [List.getD_eq_getElem?_getD, hkl]
   have hM := HT.out (k + 1) (by omega)
   obtain ⟨N, hN'⟩ : ∃ N, N = Pure.bnum (l.take k) := ⟨_, rfl⟩
   obtain ⟨M, hM'⟩ : ∃ N, N = Pure.bnum (l.take (k + 1)) := ⟨_, rfl⟩
   obtain ⟨X, hX⟩ : ∃ N, N = (l.getD k 0).toNat := ⟨_, rfl⟩
   rw [← hN', ← hM', ← hX] at hsn
   rw [← hN'] at hN ⊢
   rw [← hM'] at hM
   rw [← hX] at b0 hx
   have eor : bits .or .i64 ((N : Int) * 256) (X : Int) = (M : Int) := by
    have h := y45 (N * 256) X (by omega) (by omega)
    rw [show N * 256 ||| X = M by rw [hsn, show (256 : Nat) = 2 ^ 8 by rfl, ← Nat.shiftLeft_eq, Nat.shiftLeft_add_eq_or_of_lt (show X < 2 ^ 8 by omega)]] at h
    simpa using h
   have HM := xhd hM'
   clear hcx hN' hM' hX hsn hM
   go_wp2_with fail
   go_roundw
   case rel => exact ⟨k + 1, by omega, by go_num, by rw [← HM.out], trivial⟩
   case measure => simp [intOf]; omega
  ·have hkk : k = l.length := by omega
   have HE := xhd (show Pure.bnum (l.take k) = Pure.bnum l by rw [hkk, List.take_length])
   subst hkk
   clear hkl hk
   go_wp2
   go_ret
   exact ⟨by rw [← HE.out]; rfl, rfl⟩
abbrev ints (l : List Nat) : List Value := l.map fun (b : Nat) => Value.int .i64 (b : Int)
theorem ints_at (l : List Nat) (j : Nat) (h : j < l.length) : (ints l)[j]? = some (.int .i64 ((l.getD j 0 : Nat) : Int)) := by
 rw [List.getElem?_map, List.getElem?_eq_getElem h, List.getD_eq_getElem?_getD, List.getElem?_eq_getElem h]; rfl
theorem irow_new (w : World) (l : List Nat) (cs : Array Value) (n : Nat) (hc : cs = (ints l).toArray) (hn : n = l.length) (hl : l.length ≤ 100000) : Row (w.alloc (.cells cs 3)) (fun b => b = w.heap.size) 1 (.slice (some ⟨w.heap.size, 0, none⟩) n n) l.length (ints l) := by
 subst hc hn
 exact Row.block (Blk.new w 3 (ints l).toArray) rfl (by simp) (by unfold maxLen; omega) (Nat.le_refl _)
theorem take_snoc {α : Type} (l : List α) (d : α) (k : Nat) (h : k < l.length) : l.take (k + 1) = l.take k ++ [l.getD k d] := by
 rw [List.getD_eq_getElem?_getD, List.getElem?_eq_getElem h]
 exact (List.take_append_getElem h).symm
section
variable {w : World} {ops : Array Oper} {rest : List Oper} {o : Oper} {a : Act} {Q : Exit → Act → World → Prop}
theorem made_bytes (n : Nat) : madeCells (Value.int .u8 0).cells (n * 1) = (u8s (List.replicate n 0)).toArray := by
 rw [show (Value.int .u8 0).cells = #[.int .u8 0] from rfl]
 apply Array.ext_getElem?
 intro i
 simp only [madeCells, Nat.mul_one]
 by_cases h : i < n
 ·simp [h, Nat.mod_one]
 ·simp [h]
theorem y5k (hg : o.guard = none) (l c : Operand) (hop : o.op = Op.makeSlice 38 l c) (n : Nat) (kl kc : IntKind) (hl : a.eval l = .int kl (n : Int)) (hc : a.eval c = .int kc (n : Int)) (hn : n ≤ 1000000)
  (hK : ∀ w', Blk w' w.heap.size 5 (u8s (List.replicate n 0)).toArray → Keeps y02 w w' → w'.heap.size = w.heap.size + 1 → wpList Try.prog ops Q rest (a.put o.dst (.slice (some ⟨w.heap.size, 0, none⟩) n n)) w') :
  wpList Try.prog ops Q (o :: rest) a w := by
 obtain ⟨i0, hi0, hz0, hz1, hz2⟩ := info_parts y1w
 refine wpList_plain hg fun K hK' => ?_
 have hrun := run_make (P := Try.prog) w 38 5 i0 _ Try.underlying38 hi0 hz0 kl kc n n (by omega) (by omega) (by rw [hz2]; omega) (by omega)
 rw [hz1, Int.toNat_natCast, made_bytes] at hrun
 obtain ⟨w', hw'⟩ : ∃ w', w' = w.alloc (.cells (u8s (List.replicate n 0)).toArray 5) := ⟨_, rfl⟩
 rw [← hw'] at hrun
 unfold Oper.wp
 simp [execOp, hop, hl, hc, hrun, Result.andThen]
 exact hK' _ _ (hK w' (by rw [hw']; exact Blk.new w _ _) (by rw [hw']; exact (Keeps.refl _ w).alloc _) (by rw [hw']; simp))
end
theorem set_back (m : Nat) (L : List UInt8) (B : UInt8) : (List.replicate (m + 1) 0 ++ L).set m B = List.replicate m 0 ++ B :: L := by
 rw [List.replicate_succ', List.append_assoc, List.set_append_right _ _ (by simp)]
 simp
theorem wide_at (x n m : Nat) (h : m < n) : (Pure.wide x n).drop m = UInt8.ofNat (x / 256 ^ (n - 1 - m) % 256) :: (Pure.wide x n).drop (m + 1) := by
 have hl : m < (Pure.wide x n).length := by rw [Pure.wide_length]; exact h
 rw [List.drop_eq_getElem_cons hl]
 congr 1
 simp [Pure.wide]
theorem y6x (x n : Nat) (w : World) (hn : n ≤ 4) (_ : x < 4294967296) :
  Calls Try.prog 54 #[.int .i64 x, .int .i64 n] w fun e w' => ∃ A c, e = .returned (.slice A n c) ∧ Row w' (fun b => w.heap.size ≤ b) 1 (.slice A n c) n (u8s (Pure.wide x n)) ∧ Keeps y02 w w' := by
 go_enter Try.func54, Try.ntmps54
 go_wp2_with (at_make; refine y0j ?_)
 unfold Hid
 refine y5k rfl _ _ rfl n .i64 .i64 rfl rfl (by omega) ?_
 intro w1 hX hk hs
 obtain ⟨g, hg⟩ : ∃ g, g = w.heap.size := ⟨_, rfl⟩
 rw [← hg] at hX ⊢
 have HX := xhd hX
 have HK := xhd hk
 have HG := xhd hg
 clear hX hk hs hg
 go_wp2_with fail
 go_loopw [12] (fun v wr => ∃ k : Nat, k ≤ n ∧ v = .int .i64 (k : Int) ∧ Blk wr g 5 (u8s (List.replicate (n - k) 0 ++ (Pure.wide x n).drop (n - k))).toArray ∧ Keeps (only g) w1 wr) (fun v _ => n - (intOf v).toNat)
 case atStart =>
  refine ⟨0, by omega, rfl, ?_, Keeps.refl _ _⟩
  rw [Nat.sub_zero, List.drop_of_length_le (by rw [Pure.wide_length]; omega), List.append_nil]
  exact HX.out
 case round =>
  clear HX
  obtain ⟨k, hk, rfl, hX, hK⟩ := hrel
  have HX := xhd hX
  have HK2 := xhd hK
  by_cases hkl : k < n
  ·obtain ⟨m, hm⟩ : ∃ m, n - 1 - k = m := ⟨_, rfl⟩
   have hnk : n - k = m + 1 := by omega
   have hi0 : (0 : Int) ≤ (n : Int) - 1 - (k : Int) := by omega
   have hi1 : (n : Int) - 1 - (k : Int) < (n : Int) := by omega
   have e1 : wrap64 ((n : Int) - 1) = (n : Int) - 1 := IntWalk.wrap64_in _ (by omega)
   have e3 : wrap64 (8 * (k : Int)) = ((8 * k : Nat) : Int) := by rw [IntWalk.wrap64_in _ (by omega)]; omega
   obtain ⟨B, hBe⟩ : ∃ B, B = UInt8.ofNat (x / 256 ^ k % 256) := ⟨_, rfl⟩
   have hbv : ((x : Int) / 2 ^ (8 * k) % 256) = (B.toNat : Int) := by
    rw [hBe, show (UInt8.ofNat (x / 256 ^ k % 256)).toNat = x / 256 ^ k % 256 by simp, show (256 : Nat) ^ k = 2 ^ (8 * k) by rw [Nat.pow_mul]]
    simp
   rw [hnk] at HX
   have hlen : (List.replicate (m + 1) 0 ++ (Pure.wide x n).drop (m + 1)).length = n := by simp [Pure.wide_length]; omega
   have k0 : wr.cell? ⟨g, m, none⟩ = some (.int .u8 ((List.replicate (m + 1) 0 ++ (Pure.wide x n).drop (m + 1)).getD m 0).toNat) := by rw [HX.out.cell, ← y2f _ m (by omega)]; simp only [List.getElem?_toArray]
   obtain ⟨old, hold⟩ : ∃ old, old = (List.replicate (m + 1) 0 ++ (Pure.wide x n).drop (m + 1)).getD m 0 := ⟨_, rfl⟩
   rw [← hold] at k0
   have f0 : wr.frozen? ⟨g, m, none⟩ = false := HX.out.frozen m
   have HS := xhd (show Blk (wr.setCell ⟨g, m, none⟩ (.int .u8 B.toNat)) g 5 (u8s (List.replicate m 0 ++ (Pure.wide x n).drop m)).toArray by
    have h := HX.out.set m (.int .u8 B.toNat)
    have e : (u8s (List.replicate (m + 1) 0 ++ (Pure.wide x n).drop (m + 1))).toArray.setIfInBounds m (.int .u8 B.toNat) = (u8s (List.replicate m 0 ++ (Pure.wide x n).drop m)).toArray := by
     rw [wide_at x n m (by omega), show n - 1 - m = k by omega, ← hBe, ← set_back, xqA]
     congr 1
     rw [← List.map_set]
    rw [e] at h
    exact h)
   have HKS := xhd (HK2.out.store g m (fun _ => rfl) (.int .u8 B.toNat))
   have HM := xhd (show m = n - (k + 1) by omega)
   subst hm
   clear hX hK hold hlen hBe hnk
   go_wp2_with fail
   go_roundw
   case rel =>
    refine ⟨k + 1, by omega, by go_num, ?_, HKS.out⟩
    rw [← HM.out]
    exact HS.out
   case measure => simp [intOf]; omega
  ·have hkk : k = n := by omega
   subst hkk
   have HR := xhd (show Row wr (fun b => w.heap.size ≤ b) 1 (.slice (some ⟨g, 0, none⟩) k k) k (u8s (Pure.wide x k)) by
    have h := HX.out
    rw [Nat.sub_self] at h
    have := Row.block (F := fun b => w.heap.size ≤ b) (size := 1) (n := k) (c := k) h (by rw [HG.out]; exact Nat.le_refl _) (by simp [Pure.wide_length]) (by unfold maxLen; omega) (Nat.le_refl _)
    simpa using this)
   have HKE := xhd (show Keeps y02 w wr from (HK.out.trans' HK2.out (fun i hi hl => by have e : i = g := hi; have := HG.out; omega)))
   clear hX hK HX HK HK2
   go_wp2_with fail
   go_ret
   exact ⟨_, _, rfl, HR.out, HKE.out⟩
namespace Pure
def Rule.offerP (r : Rule) (b : List UInt8) : Option (List UInt8) :=
 if (r.how = 2 ∨ r.how = 4) ∧ 1 ≤ r.len ∧ r.len ≤ 4 then some (wide (if r.numbered b then r.nearTo (bnum b) else r.hi.toNat) r.len.toNat)
 else if r.how = 3 then some r.want else none
theorem offerP_some (r : Rule) (b : List UInt8) : (r.offerP b).isSome = (r.offers b).isSome := by
 unfold Rule.offerP Rule.offers
 by_cases h2 : r.how = 2
 ·by_cases hl : 1 ≤ r.len ∧ r.len ≤ 4
  ·simp [h2, hl]
  ·simp [h2, hl]
 ·by_cases h3 : r.how = 3
  ·simp [h3]
  ·by_cases h4 : r.how = 4
   ·by_cases hl : 1 ≤ r.len ∧ r.len ≤ 4
    ·simp [h4, hl]
    ·simp [h4, hl]
   ·simp [h2, h3, h4]
theorem offerP_bad {r : Rule} {b : List UInt8} (hM : r.Ok) (h : ¬ r.fits b) : (r.offers b).map Prod.snd = r.offerP b := by
 unfold Rule.offerP Rule.offers
 by_cases h2 : r.how = 2
 ·by_cases hl : 1 ≤ r.len ∧ r.len ≤ 4
  ·rw [if_pos (show r.how = 2 ∧ 1 ≤ r.len ∧ r.len ≤ 4 from ⟨h2, hl⟩), if_pos (show (r.how = 2 ∨ r.how = 4) ∧ 1 ≤ r.len ∧ r.len ≤ 4 from ⟨.inl h2, hl⟩)]
   show some _ = some _
   congr 2
   by_cases hn : r.numbered b
   ·rw [if_pos hn]
    obtain ⟨m1, m2, m3⟩ := hM hl.1 hl.2
    have hf : ¬ (r.lo ≤ bnum b ∧ bnum b ≤ r.hi) := fun hh => h (.inr (.inl ⟨h2, hn, hh.1, hh.2⟩))
    unfold Rule.nearTo
    rw [if_neg (show ¬ r.how = 4 by omega)]
    by_cases hlo : (bnum b : Int) < r.lo
    ·rw [if_pos (show r.numbered b ∧ (bnum b : Int) < r.lo from ⟨hn, hlo⟩)]; show wide _ _ = wide _ _; congr 1; omega
    ·rw [if_neg (show ¬ (r.numbered b ∧ (bnum b : Int) < r.lo) from fun hh => hlo hh.2)]; show wide _ _ = wide _ _; congr 1; omega
   ·rw [if_neg (fun hh => hn hh.1), if_neg hn]
  ·rw [if_neg (fun hh => hl hh.2), if_neg (by omega), if_neg (by omega), if_neg (fun hh => hl hh.2), if_neg (by omega)]
   rfl
 ·by_cases h3 : r.how = 3
  ·rw [if_neg (fun hh => h2 hh.1), if_pos h3, if_neg (by omega), if_pos h3]
   rfl
  ·by_cases h4 : r.how = 4
   ·by_cases hl : 1 ≤ r.len ∧ r.len ≤ 4
    ·rw [if_neg (fun hh => h2 hh.1), if_neg h3, if_pos (show r.how = 4 ∧ 1 ≤ r.len ∧ r.len ≤ 4 from ⟨h4, hl⟩), if_pos (show (r.how = 2 ∨ r.how = 4) ∧ 1 ≤ r.len ∧ r.len ≤ 4 from ⟨.inr h4, hl⟩)]
     show some _ = some _
     congr 2
     unfold Rule.nearTo
     rw [if_pos h4]
    ·rw [if_neg (fun hh => h2 hh.1), if_neg h3, if_neg (fun hh => hl hh.2), if_neg (fun hh => hl hh.2), if_neg h3]
     rfl
   ·rw [if_neg (fun hh => h2 hh.1), if_neg h3, if_neg (fun hh => h4 hh.1), if_neg (by omega), if_neg h3]
    rfl
theorem offerP_nil {r : Rule} : (r.offers []).map Prod.snd = r.offerP [] := by
 unfold Rule.offerP Rule.offers
 have hn : 1 ≤ r.len → ¬ r.numbered [] := fun h hh => by have := hh.2.2; simp at this; omega
 by_cases h2 : r.how = 2
 ·by_cases hl : 1 ≤ r.len ∧ r.len ≤ 4
  ·rw [if_pos (show r.how = 2 ∧ 1 ≤ r.len ∧ r.len ≤ 4 from ⟨h2, hl⟩), if_pos (show (r.how = 2 ∨ r.how = 4) ∧ 1 ≤ r.len ∧ r.len ≤ 4 from ⟨.inl h2, hl⟩), if_neg (fun hh => hn hl.1 hh.1), if_neg (hn hl.1)]
   rfl
  ·rw [if_neg (fun hh => hl hh.2), if_neg (by omega), if_neg (by omega), if_neg (fun hh => hl hh.2), if_neg (by omega)]
   rfl
 ·by_cases h3 : r.how = 3
  ·rw [if_neg (fun hh => h2 hh.1), if_pos h3, if_neg (by omega), if_pos h3]
   rfl
  ·by_cases h4 : r.how = 4
   ·by_cases hl : 1 ≤ r.len ∧ r.len ≤ 4
    ·rw [if_neg (fun hh => h2 hh.1), if_neg h3, if_pos (show r.how = 4 ∧ 1 ≤ r.len ∧ r.len ≤ 4 from ⟨h4, hl⟩), if_pos (show (r.how = 2 ∨ r.how = 4) ∧ 1 ≤ r.len ∧ r.len ≤ 4 from ⟨.inr h4, hl⟩), if_neg (hn hl.1), if_neg (hn hl.1)]
     rfl
    ·rw [if_neg (fun hh => h2 hh.1), if_neg h3, if_neg (fun hh => hl hh.2), if_neg (fun hh => hl hh.2), if_neg h3]
     rfl
   ·rw [if_neg (fun hh => h2 hh.1), if_neg h3, if_neg (fun hh => h4 hh.1), if_neg (by omega), if_neg h3]
    rfl
theorem Rule.near_lt {r : Rule} {b : List UInt8} (hM : r.Ok) (hn : r.numbered b) : r.nearTo (bnum b) < 4294967296 := by
 obtain ⟨m1, m2, m3⟩ := hM hn.1 hn.2.1
 unfold Rule.nearTo
 split
 ·have : bnum b &&& r.hi.toNat ≤ r.hi.toNat := Nat.and_le_right
  omega
 ·omega
end Pure
def Offs (w : World) (e : Ending) (w' : World) : Option (List UInt8) → Prop
 | none => e = .returned (.tuple #[.slice none 0 0, .bool false]) ∧ Keeps y02 w w'
 | some d => ∃ A c, e = .returned (.tuple #[.slice A d.length c, .bool true]) ∧ Row w' (fun b => w.heap.size ≤ b) 1 (.slice A d.length c) d.length (u8s d) ∧ Keeps y02 w w'
theorem y1s {w w' : World} {A : Option Addr} {n c : Nat} {d : List UInt8} (hn : d.length = n) (hr : Row w' (fun b => w.heap.size ≤ b) 1 (.slice A n c) n (u8s d)) (hk : Keeps y02 w w') : Offs w (.returned (.tuple #[.slice A n c, .bool true])) w' (some d) := by
 subst hn
 exact ⟨A, c, rfl, hr, hk⟩
theorem y58 (n : Nat) (k : Int) (W : World) (hn : n < 4294967296) (h1 : 1 ≤ k) (h4 : k ≤ 4) :
  Calls Try.prog 54 #[.int .i64 (n : Int), .int .i64 k] W fun e w' => ∃ A c, e = .returned (.slice A k.toNat c) ∧ Row w' (fun b => W.heap.size ≤ b) 1 (.slice A k.toNat c) k.toNat (u8s (Pure.wide n k.toNat)) ∧ Keeps y02 W w' := by
 have h := y6x n k.toNat W (by omega) hn
 rw [Int.toNat_of_nonneg (by omega)] at h
 exact h
theorem offer_num (F : Nat → Prop) (v x : Value) (r : Pure.Rule) (l : List UInt8) (w : World) (hr : Row w F 1 x l.length (u8s l)) (h24 : r.how = 2 ∨ r.how = 4) (hM : r.Ok) :
  Calls Try.prog 47 #[y0g (v, r), x] w fun e w' => Offs w e w' (r.offerP l) := by
 obtain ⟨A, c, rfl, _⟩ := hr.form
 have hb := Blk.new w 58 (y04 (v, r)).toArray
 have hk0 := (Keeps.refl y02 w).alloc (.cells (y04 (v, r)).toArray 58)
 have HK0 := xhd hk0
 have HC0 := xhd (fun j u (h : (y04 (v, r))[j]? = some u) => show (w.alloc (.cells (y04 (v, r)).toArray 58)).cell? ⟨w.heap.size, j, none⟩ = some u by rw [hb.cell, List.getElem?_toArray]; exact h)
 have q3 : (r.how == 3) = false := by rw [beq_eq_false_iff_ne]; omega
 have HCT := xhd (y3z v r (w.alloc (.cells (y04 (v, r)).toArray 58)))
 have H24 := xhd h24
 have h24 : (r.how == 2) = true ∨ ((r.how == 2) = false ∧ (r.how == 4) = true) := by
  rcases h24 with h | h
  ·exact .inl (by rw [beq_iff_eq]; exact h)
  ·exact .inr ⟨by rw [beq_eq_false_iff_ne]; omega, by rw [beq_iff_eq]; exact h⟩
 clear hb hk0
 by_cases hl : 1 ≤ r.len ∧ r.len ≤ 4
 ·rw [decide_eq_true hl] at HCT
  have hm := hM hl.1 hl.2
  have HH := xhd (fun (W : World) => y2t v r A l.length c W hr.2.1)
  by_cases hn : r.numbered l
  ·have HO := xhd (show r.offerP l = some (Pure.wide (r.nearTo (Pure.bnum l)) r.len.toNat) by unfold Pure.Rule.offerP; rw [if_pos ⟨H24.out, hl⟩, if_pos hn])
   have CM := xhd (fun (W : World) (k : Keeps y02 w W) => y2b F (.slice A l.length c) l W (hr.keeps k (fun _ _ h => h)) (by have h := hn.2.1; have h' := hn.2.2; omega))
   have CN := xhd (fun (W : World) (_ : Keeps y02 w W) => y3s v r (Pure.bnum l) W (Pure.bnum_small (by have h := hn.2.1; have h' := hn.2.2; omega)) hm)
   have HEN := xhd (fun W => y58 (r.nearTo (Pure.bnum l)) r.len W (Pure.Rule.near_lt hM hn) hl.1 hl.2)
   have HHT := xhd (show ∀ (W : World), Calls Try.prog 53 #[y0g (v, r), .slice A l.length c] W fun e w' => e = .returned (.bool true) ∧ Keeps y02 W w' from by
    have h := HH.out
    rw [decide_eq_true (show 1 ≤ r.len ∧ r.len ≤ 4 ∧ (l.length : Int) = r.len from hn)] at h
    exact h)
   clear hr HH hm hn hM
   rcases h24 with h2 | ⟨h2, h4⟩
   all_goals
    have z2 := HC0.out 2 _ rfl
    have z5 := HC0.out 5 _ rfl
    have z4 := HC0.out 4 _ rfl
    have z0 := HC0.out 0 _ rfl
    have z1 := HC0.out 1 _ rfl
    have z3 := HC0.out 3 _ rfl
    have z6 := HC0.out 6 _ rfl
    go_enter Try.func47, Try.ntmps47
    go_wp2_with fail
    refine HCT.out.mono ?_
    rintro e w' ⟨rfl, hkx⟩
    have HKx := xhd (HK0.out.trans hkx)
    have HSx := xhd (fun j u (h : (y04 (v, r))[j]? = some u) => y0a (HC0.out j u h) hkx)
    clear hkx z0 z1 z2 z3 z4 z5 z6
    have z2 := HSx.out 2 _ rfl
    have z5 := HSx.out 5 _ rfl
    have z4 := HSx.out 4 _ rfl
    have z0 := HSx.out 0 _ rfl
    have z1 := HSx.out 1 _ rfl
    have z3 := HSx.out 3 _ rfl
    have z6 := HSx.out 6 _ rfl
    go_wp2_with fail
    refine (HHT.out _).mono ?_
    rintro e w1 ⟨rfl, hk1⟩
    have HK1 := xhd (HKx.out.trans hk1)
    have HS1 := xhd (fun j u (h : (y04 (v, r))[j]? = some u) => y0a (HSx.out j u h) hk1)
    clear hk1 z0 z1 z2 z3 z4 z5 z6
    go_wp2_with fail
    refine y0e (fun w' => ∀ j u, (y04 (v, r))[j]? = some u → w'.cell? ⟨w.heap.size, j, none⟩ = some u) 4 5 rfl (by kernel_rfl) (fun j u h => HS1.out j u h) (fun hHeld => ?_)
    have HSW := hHeld
    clear hHeld
    have HK0d := xhd (HK1.out.drew)
    refine y00 (i := 0) rfl (by kernel_rfl) (fun _ _ _ h => h) (Or.inl ⟨by rfl, by intro w hSw; have c0 := hSw 0 _ rfl; have c1 := hSw 1 _ rfl; have c2 := hSw 2 _ rfl; have c3 := hSw 3 _ rfl; have c4 := hSw 4 _ rfl; have c5 := hSw 5 _ rfl; have c6 := hSw 6 _ rfl; go_simp; try with_reducible rfl⟩) HSW.out ?_
    simp only [Act.put, xqA, xqB, xqD, xqE, xqF]
    refine y00 (i := 1) rfl (by kernel_rfl) (fun _ _ _ h => h) (Or.inl ⟨by rfl, by intro w hSw; have c0 := hSw 0 _ rfl; have c1 := hSw 1 _ rfl; have c2 := hSw 2 _ rfl; have c3 := hSw 3 _ rfl; have c4 := hSw 4 _ rfl; have c5 := hSw 5 _ rfl; have c6 := hSw 6 _ rfl; go_simp; try with_reducible rfl⟩) HSW.out ?_
    simp only [Act.put, xqA, xqB, xqC, xqD, xqE, xqF]
    refine y05 (i := 2) (by kernel_rfl) rfl (fun K hK => ?_)
    try rw [if_pos (by rfl)]
    go_simp
    refine (CM.out _ HK0d.out).mono ?_
    rintro e w' ⟨rfl, rfl⟩
    refine hK.out _ _ (fun _ => HSW.out) ?_
    clear hK K
    try simp only [Act.put, xqA, Nat.reduceAdd, xqB, xqC, xqD, xqE, xqF]
    refine y05 (i := 3) (by kernel_rfl) rfl (fun K hK => ?_)
    try rw [if_pos (by rfl)]
    go_simp
    refine (CN.out _ HK0d.out).mono ?_
    rintro e w2 ⟨rfl, hk2⟩
    have HK2 := xhd (HK0d.out.trans hk2)
    have HS2 := xhd (fun j u (h : (y04 (v, r))[j]? = some u) => y0a (HSW.out j u h) hk2)
    clear hk2
    refine hK.out _ _ (fun _ => HS2.out) ?_
    clear hK K
    try simp only [Act.put, xqA, Nat.reduceAdd, xqB, xqC, xqD, xqE, xqF]
    refine y05 (i := 4) (by kernel_rfl) rfl (fun K hK => ?_)
    go_simp
    refine hK.out _ _ (fun h => absurd rfl h) ?_
    clear hK K
    refine y0d (by kernel_rfl) ?_ _
    have c1 := HS2.out 1 _ rfl
    go_wp2_with fail
    refine (HEN.out _).mono ?_
    rintro e w4 ⟨A4, cc4, rfl, hu4, hk4⟩
    have HK4 := xhd (HK2.out.trans hk4)
    have HU4 := xhd hu4
    clear hu4 hk4 c1
    go_wp2_with fail
    refine (y19 _ (.slice A4 r.len.toNat cc4) _ _ w4 HU4.out (by omega)).mono ?_
    rintro e w5 ⟨u5, rfl, hu5, hb5⟩
    obtain ⟨A5, cc5, rfl⟩ := y0b hu5
    have HU5 := xhd ((Row.of_own hu5).mono (G := fun b => w.heap.size ≤ b) (fun b hb => Nat.le_trans HK4.out.size (y0c hu5 b hb)))
    have HK5 := xhd (HK4.out.trans (Keeps.new hb5))
    clear hu5 hb5
    go_wp2_with fail
    go_ret2
    rw [HO.out]
    exact y1s (by rw [Pure.wide_length]) HU5.out HK5.out
  ·have HO := xhd (show r.offerP l = some (Pure.wide r.hi.toNat r.len.toNat) by unfold Pure.Rule.offerP; rw [if_pos ⟨H24.out, hl⟩, if_neg hn])
   have HEN := xhd (show ∀ W, Calls Try.prog 54 #[.int .i64 r.hi, .int .i64 r.len] W fun e w' => ∃ A c, e = .returned (.slice A r.len.toNat c) ∧ Row w' (fun b => W.heap.size ≤ b) 1 (.slice A r.len.toNat c) r.len.toNat (u8s (Pure.wide r.hi.toNat r.len.toNat)) ∧ Keeps y02 W w' from by
    intro W
    have h := y58 r.hi.toNat r.len W (by omega) hl.1 hl.2
    rw [Int.toNat_of_nonneg (show 0 ≤ r.hi by omega)] at h
    exact h)
   have HHT := xhd (show ∀ (W : World), Calls Try.prog 53 #[y0g (v, r), .slice A l.length c] W fun e w' => e = .returned (.bool false) ∧ Keeps y02 W w' from by
    have h := HH.out
    rw [decide_eq_false (show ¬ (1 ≤ r.len ∧ r.len ≤ 4 ∧ (l.length : Int) = r.len) from hn)] at h
    exact h)
   clear hr HH hm hn hM
   rcases h24 with h2 | ⟨h2, h4⟩
   all_goals
    have z2 := HC0.out 2 _ rfl
    have z5 := HC0.out 5 _ rfl
    have z4 := HC0.out 4 _ rfl
    have z0 := HC0.out 0 _ rfl
    have z1 := HC0.out 1 _ rfl
    have z3 := HC0.out 3 _ rfl
    have z6 := HC0.out 6 _ rfl
    go_enter Try.func47, Try.ntmps47
    go_wp2_with fail
    refine HCT.out.mono ?_
    rintro e w' ⟨rfl, hkx⟩
    have HKx := xhd (HK0.out.trans hkx)
    have HSx := xhd (fun j u (h : (y04 (v, r))[j]? = some u) => y0a (HC0.out j u h) hkx)
    clear hkx z0 z1 z2 z3 z4 z5 z6
    have z2 := HSx.out 2 _ rfl
    have z5 := HSx.out 5 _ rfl
    have z4 := HSx.out 4 _ rfl
    have z0 := HSx.out 0 _ rfl
    have z1 := HSx.out 1 _ rfl
    have z3 := HSx.out 3 _ rfl
    have z6 := HSx.out 6 _ rfl
    go_wp2_with fail
    refine (HHT.out _).mono ?_
    rintro e w1 ⟨rfl, hk1⟩
    have HK1 := xhd (HKx.out.trans hk1)
    have HS1 := xhd (fun j u (h : (y04 (v, r))[j]? = some u) => y0a (HSx.out j u h) hk1)
    clear hk1 z0 z1 z2 z3 z4 z5 z6
    have z1 := HS1.out 1 _ rfl
    have z2 := HS1.out 2 _ rfl
    have z4 := HS1.out 4 _ rfl
    have z0 := HS1.out 0 _ rfl
    have z3 := HS1.out 3 _ rfl
    have z5 := HS1.out 5 _ rfl
    have z6 := HS1.out 6 _ rfl
    go_wp2_with fail
    refine (HEN.out _).mono ?_
    rintro e w4 ⟨A4, cc4, rfl, hu4, hk4⟩
    have HK4 := xhd (HK1.out.trans hk4)
    have HU4 := xhd hu4
    clear hu4 hk4 z0 z1 z2 z3 z4 z5 z6
    go_wp2_with fail
    refine (y19 _ (.slice A4 r.len.toNat cc4) _ _ w4 HU4.out (by omega)).mono ?_
    rintro e w5 ⟨u5, rfl, hu5, hb5⟩
    obtain ⟨A5, cc5, rfl⟩ := y0b hu5
    have HU5 := xhd ((Row.of_own hu5).mono (G := fun b => w.heap.size ≤ b) (fun b hb => Nat.le_trans HK4.out.size (y0c hu5 b hb)))
    have HK5 := xhd (HK4.out.trans (Keeps.new hb5))
    clear hu5 hb5
    go_wp2_with fail
    go_ret2
    rw [HO.out]
    exact y1s (by rw [Pure.wide_length]) HU5.out HK5.out
 ·rw [decide_eq_false hl] at HCT
  have HO := xhd (show r.offerP l = none by unfold Pure.Rule.offerP; rw [if_neg (fun h => hl h.2), if_neg (by have := H24.out; omega)])
  clear hr hM hl
  rcases h24 with h2 | ⟨h2, h4⟩
  all_goals
   have z2 := HC0.out 2 _ rfl
   have z5 := HC0.out 5 _ rfl
   have z4 := HC0.out 4 _ rfl
   have z0 := HC0.out 0 _ rfl
   have z1 := HC0.out 1 _ rfl
   have z3 := HC0.out 3 _ rfl
   have z6 := HC0.out 6 _ rfl
   go_enter Try.func47, Try.ntmps47
   go_wp2_with fail
   refine HCT.out.mono ?_
   rintro e w' ⟨rfl, hkx⟩
   have HKx := xhd (HK0.out.trans hkx)
   clear hkx z0 z1 z2 z3 z4 z5 z6
   go_wp2_with fail
   go_ret2
   rw [HO.out]
   exact ⟨rfl, HKx.out⟩
theorem y73 (v x : Value) (r : Pure.Rule) (l : List UInt8) (w : World) (h2 : r.how ≠ 2) (h3 : r.how ≠ 3) (h4 : r.how ≠ 4) :
  Calls Try.prog 47 #[y0g (v, r), x] w fun e w' => Offs w e w' (r.offerP l) := by
 have HK0 := xhd ((Keeps.refl y02 w).alloc (.cells (y04 (v, r)).toArray 58))
 have HO := xhd (show r.offerP l = none by unfold Pure.Rule.offerP; rw [if_neg (by omega), if_neg h3])
 have q2 : (r.how == 2) = false := by rw [beq_eq_false_iff_ne]; exact h2
 have q3 : (r.how == 3) = false := by rw [beq_eq_false_iff_ne]; exact h3
 have q4 : (r.how == 4) = false := by rw [beq_eq_false_iff_ne]; exact h4
 clear h2 h3 h4
 go_enter Try.func47, Try.ntmps47
 go_wp2_with fail
 go_ret2
 rw [HO.out]
 exact ⟨rfl, HK0.out⟩
theorem y74 (G : Nat → Prop) (v x : Value) (r : Pure.Rule) (l : List UInt8) (w : World) (hv : Row w G 1 v r.want.length (u8s r.want)) (hw : r.want.length ≤ 1000000) (h3 : r.how = 3) :
  Calls Try.prog 47 #[y0g (v, r), x] w fun e w' => Offs w e w' (r.offerP l) := by
 obtain ⟨B, d, rfl, _⟩ := hv.form
 have hk0 := (Keeps.refl y02 w).alloc (.cells (y04 (.slice B r.want.length d, r)).toArray 58)
 have HK0 := xhd hk0
 have HB := xhd (y19 G (.slice B r.want.length d) _ r.want _ (hv.keeps hk0 (fun _ _ h => h)) (by omega))
 have HO := xhd (show r.offerP l = some r.want by unfold Pure.Rule.offerP; rw [if_neg (by omega), if_pos h3])
 have q2 : (r.how == 2) = false := by rw [beq_eq_false_iff_ne]; omega
 have q3 : (r.how == 3) = true := by rw [beq_iff_eq]; exact h3
 have q4 : (r.how == 4) = false := by rw [beq_eq_false_iff_ne]; omega
 clear h3 hv hk0
 go_enter Try.func47, Try.ntmps47
 go_wp2_with fail
 refine HB.out.mono ?_
 rintro e w5 ⟨u5, rfl, hu5, hb5⟩
 obtain ⟨A5, cc5, rfl⟩ := y0b hu5
 have HU5 := xhd ((Row.of_own hu5).mono (G := fun b => w.heap.size ≤ b) (fun b hb => Nat.le_trans HK0.out.size (y0c hu5 b hb)))
 have HK5 := xhd (HK0.out.trans (Keeps.new hb5))
 clear hu5 hb5 HB
 go_wp2_with fail
 go_ret2
 rw [HO.out]
 exact y1s rfl HU5.out HK5.out
theorem y2w (F G : Nat → Prop) (v x : Value) (r : Pure.Rule) (l : List UInt8) (w : World) (hr : Row w F 1 x l.length (u8s l)) (hv : Row w G 1 v r.want.length (u8s r.want)) (hw : r.want.length ≤ 1000000) (hM : r.Ok) :
  Calls Try.prog 47 #[y0g (v, r), x] w fun e w' => Offs w e w' (r.offerP l) := by
 by_cases h3 : r.how = 3
 ·exact y74 G v x r l w hv hw h3
 by_cases h24 : r.how = 2 ∨ r.how = 4
 ·exact offer_num F v x r l w hr h24 hM
 ·exact y73 v x r l w (fun h => h24 (.inl h)) h3 (fun h => h24 (.inr h))
end Go.Proofs.Ytgphfindolaljaa
