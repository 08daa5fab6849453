/- Package nego: copied, copies; ruleFor; has. -/
import Derived.Test.YtjomcffhbaplcaaQ4
import Derived.Test.YtjomcffhbaplcaaQ9
import Derived.Test.YtjomcffhbaplcaaQ3
namespace Go.Proofs.Ytjomcffhbaplcaa
open Go.RowKit
theorem option_info2 : (Try.prog.info? 32).map (·.size) = some 2 := by kernel_rfl
theorem nrule_info : (Try.prog.info? 54).map (·.size) = some 7 := by kernel_rfl
theorem results_row1 {P : Program} {fn : Func} {p : Tmp} {ty : TypeId} (h : fn.results = #[.cell p ty]) (tmps : Array Value) (w : World) (g : Nat) (t : TypeId) (cs : Array Value) (fr : Nat × Nat) (d : TypeDesc)
    (hp : tmps.getD p undef = .pointer (some ⟨g, 0, none⟩)) (hg : w.heap[g]? = some (.cells cs t fr))
    (hu : P.underlying ty = some d) (hd : (match d with | .struct _ | .array _ _ => true | _ => false) = true) (hi : (P.info? ty).map (·.size) = some cs.size) :
    (results fn tmps).run P w = .ok (.agg cs) w := by
  have hp' : tmps[p]?.getD undef = .pointer (some ⟨g, 0, none⟩) := by simpa using hp
  simp [results, h, hp', asAddr, run_loadVar_row w g t ty cs fr d hg hu hd hi]
set_option maxHeartbeats 4000000 in
theorem copied_any (F : Nat → Prop) (v : Value) (t : Int) (D : List UInt8) (w : World) (hr : Row w F 1 v D.length (u8s D)) (hl : D.length ≤ 1000000) :
    Calls Try.prog 39 #[optV (v, (t, D))] w fun e w' => ∃ A c, e = .returned (.agg #[.int .i64 t, .slice A D.length c]) ∧ Row w' (fun b => w.heap.size ≤ b) 1 (.slice A D.length c) D.length (u8s D) ∧ Keeps nobody w w' := by
  obtain ⟨A, c, rfl, _⟩ := hr.form
  have HR := Lib.hid hr
  have HI := Lib.hid option_info2
  clear hr
  obtain ⟨g, hg⟩ : ∃ g, g = w.heap.size := ⟨_, rfl⟩
  go_enter Try.func39, Try.ntmps39
  go_upto_region 1 with fail
  generalize hw1 : (w.alloc _).alloc _ = w1
  rw [← hg]
  have HK := Lib.hid (show Keeps nobody w w1 by rw [← hw1]; exact ((Keeps.refl nobody w).alloc _).alloc _)
  have HSZ := Lib.hid (show w1.heap.size = g + 2 by rw [← hw1, hg]; simp)
  have HC := Lib.hid (show w1.cell? ⟨g, 0, none⟩ = some (.int .i64 t) ∧ w1.cell? ⟨g, 1, none⟩ = some (.slice A D.length c) ∧ Blk w1 (g + 1) 32 #[.int .i64 0, .slice none 0 0] by
    have hb : Blk w1 g 32 #[.int .i64 t, .slice A D.length c] := by rw [← hw1, hg]; exact (Blk.new w _ _).alloc _
    refine ⟨by rw [hb.cell]; rfl, by rw [hb.cell]; rfl, ?_⟩
    rw [← hw1, show g + 1 = (w.alloc (.cells #[.int .i64 t, .slice A D.length c] 32)).heap.size by rw [hg]; simp]
    exact Blk.new _ _ _)
  have HG := Lib.hid hg
  clear hw1 hg
  refine wp_region_Z (fun w' => w'.cell? ⟨g, 0, none⟩ = some (.int .i64 t) ∧ w'.cell? ⟨g, 1, none⟩ = some (.slice A D.length c) ∧ Blk w' (g + 1) 32 #[.int .i64 0, .slice none 0 0]) 6 7 rfl (by kernel_rfl) ⟨HC.out.1, HC.out.2.1, HC.out.2.2⟩ (fun hHeld => ?_)
  have HSW := hHeld
  clear hHeld
  have HK0d := Lib.hid (HK.out.drew)
  refine wpAnyZ_take (i := 0) rfl (by kernel_rfl) (fun _ _ _ h => h) (Or.inl ⟨by rfl, by intro w hSw; obtain ⟨s0, s1, s2⟩ := hSw; go_simp; try with_reducible rfl⟩) HSW.out ?_
  simp only [Act.put, List.setIfInBounds_toArray, List.getElem_toArray, List.getElem_cons_zero, List.set_cons_succ, List.set_cons_zero]
  refine wpAnyZ_take (i := 1) rfl (by kernel_rfl) (fun _ _ _ h => h) (Or.inl ⟨by rfl, by intro w hSw; obtain ⟨s0, s1, s2⟩ := hSw; go_simp; try with_reducible rfl⟩) HSW.out ?_
  simp only [Act.put, List.setIfInBounds_toArray, List.getElem_toArray, List.getElem_cons_succ, List.getElem_cons_zero, List.set_cons_succ, List.set_cons_zero]
  refine wpAnyZ_take (i := 2) rfl (by kernel_rfl) (fun _ _ _ h => h) (Or.inl ⟨by rfl, by intro w hSw; obtain ⟨s0, s1, s2⟩ := hSw; go_simp; try with_reducible rfl⟩) HSW.out ?_
  simp only [Act.put, List.setIfInBounds_toArray, List.getElem_toArray, List.getElem_cons_succ, List.getElem_cons_zero, List.set_cons_succ, List.set_cons_zero]
  refine wpAnyZ_take (i := 3) rfl (by kernel_rfl) (fun _ _ _ h => h) (Or.inl ⟨by rfl, by intro w hSw; obtain ⟨s0, s1, s2⟩ := hSw; go_simp; try with_reducible rfl⟩) HSW.out ?_
  simp only [Act.put, List.setIfInBounds_toArray, List.getElem_toArray, List.getElem_cons_succ, List.getElem_cons_zero, List.set_cons_succ, List.set_cons_zero]
  refine wpAnyZ_one (i := 4) (by kernel_rfl) rfl (fun K hK => ?_)
  try rw [if_pos (by rfl)]
  go_simp
  refine (bclone_any F (.slice A D.length c) _ D _ (HR.out.keeps HK0d.out (fun _ _ h => h)) (by omega)).mono ?_
  rintro e w2 ⟨u, rfl, hu, hb⟩
  obtain ⟨A2, cc2, rfl⟩ := own_form hu
  have hk2 := Keeps.new hb
  have HK2 := Lib.hid (HK0d.out.trans hk2)
  have HU := Lib.hid ((Row.of_own hu).mono (G := fun b => w1.heap.size ≤ b) (fun b hb => ownsRow_ge hu b hb))
  have HS2 := Lib.hid (And.intro (cell_quiet HSW.out.1 hk2) (And.intro (cell_quiet HSW.out.2.1 hk2) (HSW.out.2.2.keeps hk2 (fun h => h))))
  clear hu hb hk2
  refine hK.out _ _ (fun _ => HS2.out) ?_
  clear hK K
  try simp only [Act.put, List.setIfInBounds_toArray, Nat.reduceAdd, List.getElem_toArray, List.getElem_cons_succ, List.getElem_cons_zero, List.set_cons_succ, List.set_cons_zero]
  refine wpAnyZ_take (i := 5) rfl (by kernel_rfl) (fun _ _ _ h => h) (Or.inl ⟨by rfl, by intro w hSw; obtain ⟨s0, s1, s2⟩ := hSw; go_simp; try with_reducible rfl⟩) HS2.out ?_
  simp only [Act.put, List.setIfInBounds_toArray, List.getElem_toArray, List.getElem_cons_succ, List.getElem_cons_zero, List.set_cons_succ, List.set_cons_zero]
  have hB := HS2.out.2.2
  have HZ := Lib.hid ((hB.set 0 (.int .i64 t)).set 1 (.slice A2 D.length cc2))
  have HKS := Lib.hid ((HK2.out.store (g + 1) 0 (fun h => by have := HG.out; omega) (.int .i64 t)).store (g + 1) 1 (fun h => by have := HG.out; omega) (.slice A2 D.length cc2))
  have HRW := Lib.hid ((HU.out.keeps (((Keeps.refl (only (g + 1)) w2).store (g + 1) 0 (fun _ => rfl) (.int .i64 t)).store (g + 1) 1 (fun _ => rfl) (.slice A2 D.length cc2)) (fun b hb e => by have e : b = g + 1 := e; have := HSZ.out; omega)).mono (G := fun b => w.heap.size ≤ b) (fun b hb => by have := HSZ.out; have := HG.out; omega))
  have o0 : w2.cell? ⟨g + 1, 0, none⟩ = some (.int .i64 0) := by rw [hB.cell]; rfl
  have o1 : w2.cell? ⟨g + 1, 1, none⟩ = some (.slice none 0 0) := by rw [hB.cell]; rfl
  have f0 := hB.frozen 0
  have f1 := hB.frozen 1
  clear hB
  refine wpAnyZ_one (i := 6) (by kernel_rfl) rfl (fun K hK => ?_)
  go_simp
  refine hK.out _ _ (fun h => absurd rfl h) ?_
  clear hK K
  refine wpAnyZ_done (by kernel_rfl) ?_ _
  go_wp2_with fail
  refine bodyPost_ret (results_row1 rfl _ _ (g + 1) 32 _ (0, 0) _ rfl HZ.out Try.underlying32 rfl (by rw [HI.out]; rfl)) rfl ?_
  exact ⟨A2, cc2, rfl, HRW.out, HKS.out⟩
set_option maxRecDepth 100000 in
set_option maxHeartbeats 4000000 in
theorem copies_any (F : Nat → Prop) (x : Value) (ps : List (Value × Pure.Opt)) (w : World) (hx : ORow w F x ps) (hl : ps.length ≤ 100000) (hd : ∀ p ∈ ps, p.2.2.length ≤ 100000) :
    Calls Try.prog 22 #[x] w fun e w' => ∃ u, ∃ qs : List (Value × Pure.Opt), e = .returned u ∧ optsOf qs = optsOf ps ∧ Read w w' u qs := by
  obtain ⟨X, cx, rfl, _⟩ := hx.form
  have HX := Lib.hid hx
  have HDL := Lib.hid hd
  clear hx hd
  obtain ⟨cs, hrun, hrd0⟩ := made_read w ps.length (by omega)
  obtain ⟨w1, hw1⟩ : ∃ w1, w1 = w.alloc (.cells cs 32) := ⟨_, rfl⟩
  rw [← hw1] at hrun hrd0
  have HRD0 := Lib.hid hrd0
  clear hrd0 hw1
  go_enter Try.func22, Try.ntmps22
  go_wp2_with fail
  go_loopw [3, 11] (fun v i wr => ∃ k : Nat, k ≤ ps.length ∧ i = .int .i64 (k : Int) ∧ ∃ qs : List (Value × Pure.Opt), optsOf qs = (optsOf ps).take k ∧ Read w wr v qs) (fun _ i _ => ps.length - (intOf i).toNat)
  case atStart => exact ⟨0, by omega, rfl, [], rfl, HRD0.out⟩
  case round =>
    clear hrun HRD0
    obtain ⟨k, hk, rfl, qs, hqs, hrd⟩ := hrel
    have hql : qs.length = k := by
      have := congrArg List.length hqs
      simp at this
      omega
    obtain ⟨A2, c2, rfl⟩ := own_form hrd.own
    subst hql
    have HQS := Lib.hid hqs
    have HRD := Lib.hid hrd
    clear hqs hrd
    by_cases hkl : qs.length < ps.length
    · have i0' : (0 : Int) ≤ (qs.length : Int) := by omega
      have i1 : (qs.length : Int) < (ps.length : Int) := by omega
      have d1 : decide ((qs.length : Int) < (ps.length : Int)) = true := decide_eq_true (by omega)
      have d2 : decide (qs.length < ps.length) = true := decide_eq_true hkl
      obtain ⟨bx, ox, A1, c1, t, D, rfl, hFb, x0, x1, hra, hpa⟩ := (HX.out.keeps (Keeps.new HRD.out.below) (fun _ _ h => h)).pick qs.length hkl
      have hDl : D.length ≤ 100000 := HDL.out _ (List.mem_of_getElem? hpa)
      have HTK := Lib.hid (show (optsOf ps).take (qs.length + 1) = (optsOf ps).take qs.length ++ [(t, D)] from opt_take _ qs.length _ (by rw [List.getElem?_map, hpa]; rfl))
      have HRA := Lib.hid hra
      clear hra hpa
      go_upto_region 5 with fail
      obtain ⟨wb, hwb⟩ : ∃ wb, wb = wr.alloc (.cells #[.int .i64 t, .slice A1 D.length c1] 32) := ⟨_, rfl⟩
      obtain ⟨gb, hgb⟩ : ∃ gb, gb = wr.heap.size := ⟨_, rfl⟩
      rw [← hwb, ← hgb]
      have hkb : Keeps nobody wr wb := by rw [hwb]; exact (Keeps.refl _ wr).alloc _
      have hbb : Blk wb gb 32 #[.int .i64 t, .slice A1 D.length c1] := by rw [hwb, hgb]; exact Blk.new wr _ _
      have y0 : wb.cell? ⟨gb, 0, none⟩ = some (.int .i64 t) := by rw [hbb.cell]; rfl
      have y1 : wb.cell? ⟨gb, 1, none⟩ = some (.slice A1 D.length c1) := by rw [hbb.cell]; rfl
      have HCP := Lib.hid (copied_any F (.slice A1 D.length c1) t D wb (HRA.out.keeps hkb (fun _ _ h => h)) (by omega))
      have HKb := Lib.hid hkb
      clear hwb hgb hbb hkb x0 x1
      go_wp2_with fail
      refine HCP.out.mono ?_
      rintro e w2 ⟨A3, c3, rfl, hu, hk2⟩
      have hkr : Keeps nobody wr w2 := HKb.out.trans hk2
      have hR2 := HRD.out.keeps hkr
      have HU := Lib.hid (HRD.out.fresh (hu.mono (G := fun b => wr.heap.size ≤ b) (fun b hb => Nat.le_trans HKb.out.size hb)))
      have HR2 := Lib.hid hR2
      clear hu hk2 hkr hR2 HCP y0 y1
      go_wp2_with (at_builtin; refine stopHere ?_)
      unfold Hid
      refine wp_append_opt rfl (.tmp 15) (.tmp 18) rfl _ qs A3 c3 t D rfl rfl HR2.out (by omega) HU.out ?_
      intro A4 c4 w3 hread hkw
      have HRead := Lib.hid hread
      clear hread hkw
      go_wp2_with fail
      go_roundw
      case rel => exact ⟨qs.length + 1, by omega, by go_num, _, by rw [HTK.out, ← HQS.out]; simp [optsOf], HRead.out⟩
      case measure => simp [intOf] <;> omega
    · have hkk : qs.length = ps.length := by omega
      have d1 : decide ((qs.length : Int) < (ps.length : Int)) = false := decide_eq_false (by omega)
      have d2 : decide (qs.length < ps.length) = false := decide_eq_false (by omega)
      have HE := Lib.hid (show optsOf qs = optsOf ps by rw [HQS.out]; exact List.take_of_length_le (by simp; omega))
      go_wp2
      go_ret
      exact ⟨_, qs, rfl, HE.out, HRD.out⟩
/-- What ruleFor answers. -/
def Ruled (w : World) (e : Ending) (w' : World) (ps : List (Value × Pure.Rule)) (t : Int) : Prop :=
  ∃ (A : Option Addr) (c : Nat) (r : Pure.Rule), e = .returned (ruleV (.slice A r.want.length c, r)) ∧ r = Pure.ruleFor (rulesOf ps) t ∧ Row w' (fun _ => True) 1 (.slice A r.want.length c) r.want.length (u8s r.want) ∧ ((∃ p ∈ ps, p.2 = r) ∨ r = Pure.deadRule) ∧ Keeps nobody w w'
set_option maxRecDepth 100000 in
set_option maxHeartbeats 4000000 in
theorem ruleFor_any (F : Nat → Prop) (x : Value) (ps : List (Value × Pure.Rule)) (t : Int) (w : World) (hx : RRow w F x ps) :
    Calls Try.prog 32 #[x, .int .i64 t] w fun e w' => Ruled w e w' ps t := by
  obtain ⟨X, cx, rfl, _⟩ := hx.form
  have hm := hx.out.2.1
  unfold maxLen at hm
  have HX := Lib.hid hx
  have HI := Lib.hid nrule_info
  clear hx
  obtain ⟨g, hg⟩ : ∃ g, g = w.heap.size := ⟨_, rfl⟩
  go_enter Try.func32, Try.ntmps32
  go_upto_region 1 with fail
  generalize hw1 : w.alloc _ = w1
  rw [← hg]
  have hB : Blk w1 g 54 #[.int .i64 0, .int .i64 0, .int .i64 0, .int .i64 0, .int .i64 0, .slice none 0 0, .bool false] := by rw [← hw1, hg]; exact Blk.new w _ _
  have HB := Lib.hid hB
  have hK : Keeps nobody w w1 := by rw [← hw1]; exact (Keeps.refl _ w).alloc _
  have HK := Lib.hid hK
  have HG := Lib.hid hg
  have HF := Lib.hid (findRule_any F (.slice X ps.length cx) ps t w1 (HX.out.keeps hK (fun _ _ h => h)))
  clear hw1 hg hB hK
  go_wp2_with fail
  refine HF.out.mono ?_
  rintro e w2 ⟨i, rfl, hp, hk2⟩
  have HK2 := Lib.hid (HK.out.trans hk2)
  have HB2 := Lib.hid (HB.out.keeps hk2 (fun h => h))
  have HX2 := Lib.hid (HX.out.keeps HK2.out (fun _ _ h => h))
  have z0 : w2.cell? ⟨g, 0, none⟩ = some (.int .i64 0) := by rw [HB2.out.cell]; rfl
  have z1 : w2.cell? ⟨g, 1, none⟩ = some (.int .i64 0) := by rw [HB2.out.cell]; rfl
  have z2 : w2.cell? ⟨g, 2, none⟩ = some (.int .i64 0) := by rw [HB2.out.cell]; rfl
  have z3 : w2.cell? ⟨g, 3, none⟩ = some (.int .i64 0) := by rw [HB2.out.cell]; rfl
  have z4 : w2.cell? ⟨g, 4, none⟩ = some (.int .i64 0) := by rw [HB2.out.cell]; rfl
  have z5 : w2.cell? ⟨g, 5, none⟩ = some (.slice none 0 0) := by rw [HB2.out.cell]; rfl
  have z6 : w2.cell? ⟨g, 6, none⟩ = some (.bool false) := by rw [HB2.out.cell]; rfl
  have f0 := HB2.out.frozen 0
  have f1 := HB2.out.frozen 1
  have f2 := HB2.out.frozen 2
  have f3 := HB2.out.frozen 3
  have f4 := HB2.out.frozen 4
  have f5 := HB2.out.frozen 5
  have f6 := HB2.out.frozen 6
  rcases hp.find with ⟨rfl, hnone⟩ | ⟨k, r, rfl, hkl, hkr, hsome⟩
  · have HE := Lib.hid (show Pure.ruleFor (ps.map Prod.snd) t = Pure.deadRule by unfold Pure.ruleFor Pure.ruleOf; rw [hnone]; rfl)
    have hB := HB2.out
    have HZS := Lib.hid (((((((hB.set 0 (.int .i64 0)).set 1 (.int .i64 0)).set 2 (.int .i64 0)).set 3 (.int .i64 0)).set 4 (.int .i64 0)).set 5 (.slice none 0 0)).set 6 (.bool false))
    have HKS := Lib.hid (((((((HK2.out.store g 0 (fun h => by have := HG.out; omega) (.int .i64 0)).store g 1 (fun h => by have := HG.out; omega) (.int .i64 0)).store g 2 (fun h => by have := HG.out; omega) (.int .i64 0)).store g 3 (fun h => by have := HG.out; omega) (.int .i64 0)).store g 4 (fun h => by have := HG.out; omega) (.int .i64 0)).store g 5 (fun h => by have := HG.out; omega) (.slice none 0 0)).store g 6 (fun h => by have := HG.out; omega) (.bool false))
    clear hB hp hnone hk2 HF HB HK
    go_wp2_with fail
    refine bodyPost_ret (results_row1 rfl _ _ g 54 _ (0, 0) _ rfl HZS.out Try.underlying54 rfl (by rw [HI.out]; rfl)) rfl ?_
    exact ⟨none, 0, Pure.deadRule, rfl, HE.out.symm, Row.nil _ _ _, .inr rfl, HKS.out⟩
  · have hkp : k < ps.length := by simpa using hkl
    obtain ⟨pb, po, A5, c5, r', rfl, hFp, hcell, hwant, hpa⟩ := HX2.out.pick k hkp
    have hrr : r' = r := by
      have h1 : (ps.map Prod.snd)[k]? = some r' := by rw [List.getElem?_map, hpa]; rfl
      rw [hkr] at h1
      injection h1 with h1
      exact h1.symm
    subst hrr
    have x0 : w2.cell? ⟨pb, po + k * 7, none⟩ = some (.int .i64 r'.type) := hcell 0 _ rfl
    have x1 := hcell 1 _ rfl
    have x2 := hcell 2 _ rfl
    have x3 := hcell 3 _ rfl
    have x4 := hcell 4 _ rfl
    have x5 := hcell 5 _ rfl
    have x6 := hcell 6 _ rfl
    have i0 : (0 : Int) ≤ (k : Int) := by omega
    have i1 : (k : Int) < (ps.length : Int) := by omega
    have HE := Lib.hid (show Pure.ruleFor (ps.map Prod.snd) t = r' by unfold Pure.ruleFor Pure.ruleOf; rw [hsome]; rfl)
    have HPA := Lib.hid (List.mem_of_getElem? hpa)
    have hB := HB2.out
    have HZS := Lib.hid (((((((hB.set 0 (.int .i64 r'.type)).set 1 (.int .i64 r'.len)).set 2 (.int .i64 r'.how)).set 3 (.int .i64 r'.lo)).set 4 (.int .i64 r'.hi)).set 5 (.slice A5 r'.want.length c5)).set 6 (.bool r'.need))
    have HKS := Lib.hid (((((((HK2.out.store g 0 (fun h => by have := HG.out; omega) (.int .i64 r'.type)).store g 1 (fun h => by have := HG.out; omega) (.int .i64 r'.len)).store g 2 (fun h => by have := HG.out; omega) (.int .i64 r'.how)).store g 3 (fun h => by have := HG.out; omega) (.int .i64 r'.lo)).store g 4 (fun h => by have := HG.out; omega) (.int .i64 r'.hi)).store g 5 (fun h => by have := HG.out; omega) (.slice A5 r'.want.length c5)).store g 6 (fun h => by have := HG.out; omega) (.bool r'.need))
    have HW := Lib.hid ((HX.out.rows _ HPA.out).keeps HKS.out (fun _ _ h => h))
    clear hB hp hsome hk2 HF HB HK hcell hwant hpa hkr hkl
    go_wp2_with fail
    refine bodyPost_ret (results_row1 rfl _ _ g 54 _ (0, 0) _ rfl HZS.out Try.underlying54 rfl (by rw [HI.out]; rfl)) rfl ?_
    exact ⟨A5, c5, r', rfl, HE.out.symm, HW.out.mono (fun _ _ => trivial), .inl ⟨_, HPA.out, rfl⟩, HKS.out⟩
end Go.Proofs.Ytjomcffhbaplcaa
/- Package nego: a rule's counts, holds, near; number. -/
namespace Go.Proofs.Ytjomcffhbaplcaa
open Go.RowKit
namespace Pure
/-- The number that a rule lets pass in the place of n. -/
def Rule.nearTo (r : Rule) (n : Nat) : Nat := if r.how = 4 then n &&& r.hi.toNat else min (max n r.lo.toNat) r.hi.toNat
/-- Are its numbers as they may be? -/
def Rule.Ok (r : Rule) : Prop := 1 ≤ r.len → r.len ≤ 4 → 0 ≤ r.lo ∧ r.lo ≤ r.hi ∧ r.hi < 4294967296
end Pure
theorem counts_any (v : Value) (r : Pure.Rule) (w : World) : Calls Try.prog 71 #[ruleV (v, r)] w fun e w' => e = .returned (.bool (decide (1 ≤ r.len ∧ r.len ≤ 4))) ∧ Keeps nobody w w' := by
  have HK0 := Lib.hid ((Keeps.refl nobody w).alloc (.cells (ruleCells (v, r)).toArray 54))
  by_cases h1 : 1 ≤ r.len
  · have d1 : decide (1 ≤ r.len) = true := decide_eq_true h1
    have HD := Lib.hid (show decide (1 ≤ r.len ∧ r.len ≤ 4) = decide (r.len ≤ 4) by simp [h1])
    clear h1
    go_enter Try.func71, Try.ntmps71
    go_wp2_with fail
    go_ret
    exact ⟨by rw [HD.out]; rfl, HK0.out⟩
  · have d1 : decide (1 ≤ r.len) = false := decide_eq_false h1
    have HD := Lib.hid (show decide (1 ≤ r.len ∧ r.len ≤ 4) = false by simp [h1])
    clear h1
    go_enter Try.func71, Try.ntmps71
    go_wp2_with fail
    go_ret
    exact ⟨by rw [HD.out]; rfl, HK0.out⟩
set_option maxHeartbeats 2000000 in
theorem holds_any (v : Value) (r : Pure.Rule) (A : Option Addr) (n c : Nat) (w : World) (_ : n ≤ maxLen) : Calls Try.prog 54 #[ruleV (v, r), .slice A n c] w fun e w' => e = .returned (.bool (decide (1 ≤ r.len ∧ r.len ≤ 4 ∧ (n : Int) = r.len))) ∧ Keeps nobody w w' := by
  have hb := Blk.new w 54 (ruleCells (v, r)).toArray
  have HK0 := Lib.hid ((Keeps.refl nobody w).alloc (.cells (ruleCells (v, r)).toArray 54))
  have HC := Lib.hid (counts_any v r (w.alloc (.cells (ruleCells (v, r)).toArray 54)))
  have hc1 : (w.alloc (.cells (ruleCells (v, r)).toArray 54)).cell? ⟨w.heap.size, 1, none⟩ = some (.int .i64 r.len) := by rw [hb.cell]; rfl
  by_cases h : 1 ≤ r.len ∧ r.len ≤ 4
  · rw [decide_eq_true h] at HC
    have HD := Lib.hid (show decide (1 ≤ r.len ∧ r.len ≤ 4 ∧ (n : Int) = r.len) = decide ((n : Int) = r.len) by simp [h.1, h.2])
    clear h hb
    go_enter Try.func54, Try.ntmps54
    go_wp2_with fail
    refine HC.out.mono ?_
    rintro e w1 ⟨rfl, hk⟩
    have c1 := cell_quiet hc1 hk
    have HK1 := Lib.hid (HK0.out.trans hk)
    clear hk HC hc1
    go_wp2_with fail
    go_ret
    exact ⟨by rw [HD.out]; rfl, HK1.out⟩
  · rw [decide_eq_false h] at HC
    have HD := Lib.hid (show decide (1 ≤ r.len ∧ r.len ≤ 4 ∧ (n : Int) = r.len) = false by rw [decide_eq_false_iff_not]; exact fun h' => h ⟨h'.1, h'.2.1⟩)
    clear h hb hc1
    go_enter Try.func54, Try.ntmps54
    go_wp2_with fail
    refine HC.out.mono ?_
    rintro e w1 ⟨rfl, hk⟩
    have HK1 := Lib.hid (HK0.out.trans hk)
    clear hk HC
    go_wp2_with fail
    go_ret
    exact ⟨by rw [HD.out]; rfl, HK1.out⟩
theorem near_any (v : Value) (r : Pure.Rule) (n : Nat) (w : World) (hn : n < 4294967296) (hr : 0 ≤ r.lo ∧ r.lo ≤ r.hi ∧ r.hi < 4294967296) :
    Calls Try.prog 56 #[ruleV (v, r), .int .i64 (n : Int)] w fun e w' => e = .returned (.int .i64 (r.nearTo n : Nat)) ∧ Keeps nobody w w' := by
  have hb := Blk.new w 54 (ruleCells (v, r)).toArray
  have HK0 := Lib.hid ((Keeps.refl nobody w).alloc (.cells (ruleCells (v, r)).toArray 54))
  by_cases h4 : r.how = 4
  · have q4 : (r.how == 4) = true := by rw [beq_iff_eq]; exact h4
    have HN := Lib.hid (show r.nearTo n = n &&& r.hi.toNat by unfold Pure.Rule.nearTo; rw [if_pos h4])
    have ha : bits .and .i64 (n : Int) r.hi = ((n &&& r.hi.toNat : Nat) : Int) := by
      rw [i64_and _ _ (by omega) (by omega) (by omega) (by omega)]
      simp
    clear h4 hb hr
    go_enter Try.func56, Try.ntmps56
    go_wp2_with fail
    go_ret
    exact ⟨by rw [HN.out]; rfl, HK0.out⟩
  · have q4 : (r.how == 4) = false := by rw [beq_eq_false_iff_ne]; exact h4
    have HN := Lib.hid (show ((r.nearTo n : Nat) : Int) = min (max (n : Int) r.lo) r.hi by unfold Pure.Rule.nearTo; rw [if_neg h4]; omega)
    clear h4 hb hr
    go_enter Try.func56, Try.ntmps56
    go_wp2_with fail
    all_goals
      go_ret
      refine ⟨?_, HK0.out⟩
      rw [HN.out]
      show Ending.returned (Value.int IntKind.i64 _) = _
      congr 2
      first | omega | (split at * <;> omega) | trace_state
set_option maxRecDepth 100000 in
set_option maxHeartbeats 2000000 in
theorem nnumber_any (F : Nat → Prop) (x : Value) (l : List UInt8) (w : World) (hr : Row w F 1 x l.length (u8s l)) (hl : l.length ≤ 4) :
    Calls Try.prog 57 #[x] w fun e w' => e = .returned (.int .i64 (Pure.bnum l : Nat)) ∧ w = w' := by
  obtain ⟨A, c, rfl, hc⟩ := hr.form
  have HR := Lib.hid hr
  have HT := Lib.hid (fun (k : Nat) (h : k ≤ l.length) => show Pure.bnum (l.take k) < 4294967296 from Pure.bnum_small (by rw [List.length_take]; omega))
  have HT3 := Lib.hid (fun (k : Nat) (h : k < l.length) => show Pure.bnum (l.take k) < 16777216 from Nat.lt_of_lt_of_le (Pure.bnum_lt _) (show 256 ^ (l.take k).length ≤ 256 ^ 3 from Nat.pow_le_pow_right (by omega) (by rw [List.length_take]; omega)))
  clear hr
  go_enter Try.func57, Try.ntmps57
  go_wp2_with fail
  go_loopw [3, 8] (fun v i wr => ∃ k : Nat, k ≤ l.length ∧ i = .int .i64 (k : Int) ∧ v = .int .i64 (Pure.bnum (l.take k) : Nat) ∧ wr = w) (fun _ i _ => l.length - (intOf i).toNat)
  case atStart => exact ⟨0, by omega, rfl, rfl, rfl⟩
  case round =>
    obtain ⟨k, hk, rfl, rfl, rfl⟩ := hrel
    by_cases hkl : k < l.length
    · have i0 : (0 : Int) ≤ (k : Int) := by omega
      have i1 : (k : Int) < (l.length : Int) := by omega
      obtain ⟨b, off, rfl, _, hcx⟩ := HR.out.cellAt (by omega)
      have b0 := hcx k _ (u8s_at l k hkl)
      have hx := (l.getD k 0).toNat_lt
      have hN := HT3.out k hkl
      have hsn : Pure.bnum (l.take (k + 1)) = Pure.bnum (l.take k) * 256 + (l.getD k 0).toNat := by
        rw [List.take_succ_eq_append_getElem hkl, Pure.bnum_snoc]
        simp [List.getD_eq_getElem?_getD, hkl]
      have hM := HT.out (k + 1) (by omega)
      obtain ⟨N, hN'⟩ : ∃ N, N = Pure.bnum (l.take k) := ⟨_, rfl⟩
      obtain ⟨M, hM'⟩ : ∃ N, N = Pure.bnum (l.take (k + 1)) := ⟨_, rfl⟩
      obtain ⟨X, hX⟩ : ∃ N, N = (l.getD k 0).toNat := ⟨_, rfl⟩
      rw [← hN', ← hM', ← hX] at hsn
      rw [← hN'] at hN ⊢
      rw [← hM'] at hM
      rw [← hX] at b0 hx
      have eor : bits .or .i64 ((N : Int) * 256) (X : Int) = (M : Int) := by
        have h := i64_or_nat (N * 256) X (by omega) (by omega)
        rw [show N * 256 ||| X = M by rw [hsn, show (256 : Nat) = 2 ^ 8 by rfl, ← Nat.shiftLeft_eq, Nat.shiftLeft_add_eq_or_of_lt (show X < 2 ^ 8 by omega)]] at h
        simpa using h
      have HM := Lib.hid hM'
      clear hcx hN' hM' hX hsn hM
      go_wp2_with fail
      go_roundw
      case rel => exact ⟨k + 1, by omega, by go_num, by rw [← HM.out], trivial⟩
      case measure => simp [intOf]; omega
    · have hkk : k = l.length := by omega
      have HE := Lib.hid (show Pure.bnum (l.take k) = Pure.bnum l by rw [hkk, List.take_length])
      subst hkk
      clear hkl hk
      go_wp2
      go_ret
      exact ⟨by rw [← HE.out]; rfl, rfl⟩
end Go.Proofs.Ytjomcffhbaplcaa
