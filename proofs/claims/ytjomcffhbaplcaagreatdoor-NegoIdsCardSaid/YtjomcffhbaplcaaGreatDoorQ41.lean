/- Package nego: heed, of a request. -/
import Derived.Test.YtjomcffhbaplcaaGreatDoorQ39
namespace Go.Proofs.YtjomcffhbaplcaaGreatDoor
open Go.RowKit
/-- Whoever is behind this value answers so, when it is told of these options. -/
def JudgedBy (j : Value) (w : World) (u : Value) (B : Bool) (J : Nat × List Pure.Opt) : Prop :=
  ∃ fn cv, j = .func (.func fn) #[cv] #[] ∧ (∀ args w, Sem.run Tryz.prog (callFunc fn args) w = .ok (.enter fn args) w) ∧ ∀ w', Keeps nobody w w' → Calls Tryz.prog fn #[cv, u, .bool B] w' fun e w'' => Judged w' e w'' J
theorem run_byRules (args : Array Value) (w : World) : Sem.run Tryz.prog (callFunc 35 args) w = .ok (.enter 35 args) w := run_enter Tryz.func35 (by kernel_rfl) rfl args w
theorem judgeBy_any (R Fz : Nat → Prop) (g : Nat) (f : NF) (n : Pure.Neg) (uv : Value) (zs : List (Value × Pure.Opt)) (B : Bool) (w : World) (h : NObj w g R f n) (hz : ORow w Fz uv zs) (hfz : Pure.Fine (optsOf zs)) :
    Calls Tryz.prog 35 #[.pointer (some ⟨g, 0, none⟩), uv, .bool B] w fun e w' => Judged w e w' (Pure.judge n.rules (optsOf zs) B) := by
  obtain ⟨us, hu, hue, hfu⟩ := h.rules
  obtain ⟨UA, uc, rfl, _⟩ := hz.form
  obtain ⟨U, cu, hU, _⟩ := hu.form
  have g1 : w.cell? ⟨g, 1, none⟩ = some f.rules := h.blk.cell 1
  rw [hU] at g1 hu
  have HJ := Lib.hid (judge_any R Fz _ _ us zs B w hu hz hfu (fine_few hfz))
  have HUE := Lib.hid hue
  clear hu hue hfu hz hfz h hU
  go_enter Tryz.func35, Tryz.ntmps35
  go_wp2_with fail
  refine HJ.out.mono ?_
  rintro e w2 ⟨A2, c2, qs, rfl, hqs, hrd⟩
  have HQ := Lib.hid hqs
  have HR := Lib.hid hrd
  clear hqs hrd
  go_wp2_with fail
  go_ret2
  exact ⟨A2, c2, qs, by rw [HUE.out]; rfl, by rw [HQ.out, HUE.out], HR.out⟩
theorem byRules_judges (R Fz : Nat → Prop) (g : Nat) (f : NF) (n : Pure.Neg) (uv : Value) (zs : List (Value × Pure.Opt)) (B : Bool) (w : World) (h : NObj w g R f n) (hz : ORow w Fz uv zs) (hfz : Pure.Fine (optsOf zs)) : JudgedBy (byRules g) w uv B (Pure.judge n.rules (optsOf zs) B) :=
  ⟨_, _, rfl, run_byRules, fun w' k => judgeBy_any R Fz g f n uv zs B w' (h.keeps k (fun h => h) (fun h => h) (fun _ _ h => h)) (hz.keeps k (fun _ _ h => h)) hfz⟩
theorem judged_few {w : World} {g : Nat} {R : Nat → Prop} {f : NF} {n : Pure.Neg} (h : NObj w g R f n) (hrl : n.rules.length ≤ 1000) {l : List Pure.Opt} (hl : Pure.Fine l) {B : Bool} (qs : List (Value × Pure.Opt)) (hq : optsOf qs = (Pure.judge n.rules l B).2) : FewOpts qs := by
  obtain ⟨us, hu, hue, hfu⟩ := h.rules
  have hw : ∀ r ∈ n.rules, r.want.length ≤ 100000 := by
    rw [← hue]
    intro r hr
    obtain ⟨p, hp, rfl⟩ := List.mem_map.1 hr
    exact (hfu.ok p hp).2
  obtain ⟨s1, s2⟩ := Pure.judge_small (rejects := B) hrl hw hl
  rw [← hq] at s1 s2
  refine ⟨by simp at s1; omega, fun p hp => s2 p.2 (List.mem_map.2 ⟨p, hp, rfl⟩)⟩
set_option maxRecDepth 100000 in
set_option maxHeartbeats 4000000 in
theorem heed_req (R Fz : Nat → Prop) (g : Nat) (f : NF) (n : Pure.Neg) (zs : List (Value × Pure.Opt)) (J : Nat × List Pure.Opt) (pi : Int) (pd : List UInt8) (DA : Option Addr) (dc : Nat) (uv : Value) (w : World) (h : NObj w g R f n) (hz : ORow w Fz uv zs)
    (hJ : JudgedBy f.gm.j w uv (decide (n.m.tries ≤ n.naks)) J) (hfq : ∀ qs : List (Value × Pure.Opt), optsOf qs = J.2 → FewOpts qs) (ev : Nat) (hev : ev = if J.1 = 2 then 6 else 7) :
    Calls Tryz.prog 42 #[.pointer (some ⟨g, 0, none⟩), pktV ⟨1, pi, pd⟩ (.slice DA pd.length dc), uv] w fun e w' => Heeded w g R f ⟨1, pi, pd⟩ (.slice DA pd.length dc) (ev, n, ⟨⟨1, pi, pd⟩, J.1, J.2⟩) e w' := by
  have HEV := Lib.hid hev
  clear hev
  obtain ⟨UA, uc, rfl, _⟩ := hz.form
  obtain ⟨B, hB⟩ : ∃ B, B = decide (n.m.tries ≤ n.naks) := ⟨_, rfl⟩
  rw [← hB] at hJ
  have e2 : decide (f.tries ≤ f.naks) = B := by rw [h.e1, h.e3, hB]
  have e1 : decide ((f.tries : Int) ≤ (f.naks : Int)) = B := by rw [← e2]; exact decide_eq_decide.2 (by omega)
  obtain ⟨fn, cv, hjv, hent, hcall⟩ := hJ
  have HFQ := Lib.hid hfq
  have HCA := Lib.hid hcall
  have HJV := Lib.hid hjv
  clear hz hfq hB hcall hjv
  have HI := Lib.hid cause_info
  obtain ⟨w1, hw1, hP, hO, hC, hk1⟩ := three_new w #[.int .i64 1, .int .i64 pi, .slice DA pd.length dc] #[.int .i64 0, .int .i64 0, .slice none 0 0, .int .i64 0, .slice none 0 0] #[.int .i64 1, .int .i64 pi, .slice DA pd.length dc, .int .i64 0, .slice none 0 0] 40 82 82
  obtain ⟨rp, hrp⟩ : ∃ q, q = w.heap.size := ⟨_, rfl⟩
  rw [← hrp] at hP hO hC
  have hgl := h.blk.lt
  have hml := Blk.lt h.mach
  have H1 := Lib.hid (h.keeps hk1 (fun h => h) (fun h => h) (fun _ _ h => h))
  have HP := Lib.hid hP
  have HO := Lib.hid hO
  have HC := Lib.hid hC
  have HK1 := Lib.hid hk1
  have HRL := Lib.hid (show ∀ b, R b → b < rp by rw [hrp]; exact h.lt)
  have HGL := Lib.hid (show g < rp by omega)
  have HML := Lib.hid (show f.gm < rp by omega)
  have HRP := Lib.hid (show w.heap.size = rp from hrp.symm)
  have HKZ0 := Lib.hid (Keeps.refl nobody w1)
  have HG1 := Lib.hid (show w1.cell? ⟨g, 2, none⟩ = some (.func (.func fn) #[cv] #[]) by rw [← HJV.out]; exact H1.out.blk.cell 2)
  have HG2 := Lib.hid (show w1.cell? ⟨g, 3, none⟩ = some (.int .i64 (f.tries : Int)) from H1.out.blk.cell 3)
  have HG9 := Lib.hid (show w1.cell? ⟨g, 10, none⟩ = some (.int .i64 (f.naks : Int)) from H1.out.blk.cell 10)
  have q0 : w1.cell? ⟨rp, 0, none⟩ = some (.int .i64 1) := by rw [hP.cell]; rfl
  go_enter Tryz.func42, Tryz.ntmps42
  go_upto_region 2 with fail
  rw [← hrp]
  rw [← hw1]
  clear hw1 hP hO hC hk1 hgl hml hrp h
  go_wp2_with fail
  refine wp_region_Z (fun w' => w'.cell? ⟨g, 2, none⟩ = some (.func (.func fn) #[cv] #[]) ∧ w'.cell? ⟨g, 10, none⟩ = some (.int .i64 (f.naks : Int)) ∧ w'.cell? ⟨g, 3, none⟩ = some (.int .i64 (f.tries : Int))) 21 22 rfl (by kernel_rfl) ⟨HG1.out, HG9.out, HG2.out⟩ (fun hHeld => ?_)
  have HSW := hHeld
  clear hHeld
  have HK0d := Lib.hid (HKZ0.out.drew)
  refine wpAnyZ_take (i := 0) rfl (by kernel_rfl) (fun _ _ _ h => h) (Or.inl ⟨by rfl, by intro w hSw; obtain ⟨s0, s1, s2⟩ := hSw; go_simp; try with_reducible rfl⟩) HSW.out ?_
  simp only [Act.put, List.setIfInBounds_toArray, List.getElem_toArray, List.getElem_cons_zero, List.set_cons_succ, List.set_cons_zero]
  refine wpAnyZ_take (i := 1) rfl (by kernel_rfl) (fun _ _ _ h => h) (Or.inl ⟨by rfl, by intro w hSw; obtain ⟨s0, s1, s2⟩ := hSw; go_simp; try with_reducible rfl⟩) HSW.out ?_
  simp only [Act.put, List.setIfInBounds_toArray, List.getElem_toArray, List.getElem_cons_succ, List.getElem_cons_zero, List.set_cons_succ, List.set_cons_zero]
  refine wpAnyZ_take (i := 2) rfl (by kernel_rfl) (fun _ _ _ h => h) (Or.inl ⟨by rfl, by intro w hSw; obtain ⟨s0, s1, s2⟩ := hSw; go_simp; try with_reducible rfl⟩) HSW.out ?_
  simp only [Act.put, List.setIfInBounds_toArray, List.getElem_toArray, List.getElem_cons_succ, List.getElem_cons_zero, List.set_cons_succ, List.set_cons_zero]
  refine wpAnyZ_take (i := 3) rfl (by kernel_rfl) (fun _ _ _ h => h) (Or.inl ⟨by rfl, by intro w hSw; obtain ⟨s0, s1, s2⟩ := hSw; go_simp; try with_reducible rfl⟩) HSW.out ?_
  simp only [Act.put, List.setIfInBounds_toArray, List.getElem_toArray, List.getElem_cons_succ, List.getElem_cons_zero, List.set_cons_succ, List.set_cons_zero]
  refine wpAnyZ_take (i := 4) rfl (by kernel_rfl) (fun _ _ _ h => h) (Or.inl ⟨by rfl, by intro w hSw; obtain ⟨s0, s1, s2⟩ := hSw; go_simp; try with_reducible rfl⟩) HSW.out ?_
  simp only [Act.put, List.setIfInBounds_toArray, List.getElem_toArray, List.getElem_cons_succ, List.getElem_cons_zero, List.set_cons_succ, List.set_cons_zero]
  refine wpAnyZ_take (i := 5) rfl (by kernel_rfl) (fun _ _ _ h => h) (Or.inl ⟨by rfl, by intro w hSw; obtain ⟨s0, s1, s2⟩ := hSw; go_simp; try with_reducible rfl⟩) HSW.out ?_
  simp only [Act.put, List.setIfInBounds_toArray, List.getElem_toArray, List.getElem_cons_succ, List.getElem_cons_zero, List.set_cons_succ, List.set_cons_zero]
  refine wpAnyZ_take (i := 6) rfl (by kernel_rfl) (fun _ _ _ h => h) (Or.inl ⟨by rfl, by intro w hSw; obtain ⟨s0, s1, s2⟩ := hSw; go_simp; try with_reducible rfl⟩) HSW.out ?_
  simp only [Act.put, List.setIfInBounds_toArray, List.getElem_toArray, List.getElem_cons_succ, List.getElem_cons_zero, List.set_cons_succ, List.set_cons_zero]
  refine wpAnyZ_take (i := 7) rfl (by kernel_rfl) (fun _ _ _ h => h) (Or.inl ⟨by rfl, by intro w hSw; obtain ⟨s0, s1, s2⟩ := hSw; go_simp; try with_reducible rfl⟩) HSW.out ?_
  simp only [Act.put, List.setIfInBounds_toArray, List.getElem_toArray, List.getElem_cons_succ, List.getElem_cons_zero, List.set_cons_succ, List.set_cons_zero]
  refine wpAnyZ_take (i := 8) rfl (by kernel_rfl) (fun _ _ _ h => h) (Or.inl ⟨by rfl, by intro w hSw; obtain ⟨s0, s1, s2⟩ := hSw; go_simp; try with_reducible rfl⟩) HSW.out ?_
  simp only [Act.put, List.setIfInBounds_toArray, List.getElem_toArray, List.getElem_cons_succ, List.getElem_cons_zero, List.set_cons_succ, List.set_cons_zero]
  refine wpAnyZ_take (i := 9) rfl (by kernel_rfl) (fun _ _ _ h => h) (Or.inl ⟨by rfl, by intro w hSw; obtain ⟨s0, s1, s2⟩ := hSw; go_simp; try with_reducible rfl⟩) HSW.out ?_
  simp only [Act.put, List.setIfInBounds_toArray, List.getElem_toArray, List.getElem_cons_succ, List.getElem_cons_zero, List.set_cons_succ, List.set_cons_zero]
  refine wpAnyZ_take (i := 10) rfl (by kernel_rfl) (fun _ _ _ h => h) (Or.inl ⟨by rfl, by intro w hSw; obtain ⟨s0, s1, s2⟩ := hSw; go_simp; try with_reducible rfl⟩) HSW.out ?_
  simp only [Act.put, List.setIfInBounds_toArray, List.getElem_toArray, List.getElem_cons_succ, List.getElem_cons_zero, List.set_cons_succ, List.set_cons_zero]
  refine wpAnyZ_take (i := 11) rfl (by kernel_rfl) (fun _ _ _ h => h) (Or.inl ⟨by rfl, by intro w hSw; obtain ⟨s0, s1, s2⟩ := hSw; go_simp; try with_reducible rfl⟩) HSW.out ?_
  simp only [Act.put, List.setIfInBounds_toArray, List.getElem_toArray, List.getElem_cons_succ, List.getElem_cons_zero, List.set_cons_succ, List.set_cons_zero]
  refine wpAnyZ_take (i := 12) rfl (by kernel_rfl) (fun _ _ _ h => h) (Or.inl ⟨by rfl, by intro w hSw; obtain ⟨s0, s1, s2⟩ := hSw; go_simp; try with_reducible rfl⟩) HSW.out ?_
  simp only [Act.put, List.setIfInBounds_toArray, List.getElem_toArray, List.getElem_cons_succ, List.getElem_cons_zero, List.set_cons_succ, List.set_cons_zero]
  refine wpAnyZ_take (i := 13) rfl (by kernel_rfl) (fun _ _ _ h => h) (Or.inl ⟨by rfl, by intro w hSw; obtain ⟨s0, s1, s2⟩ := hSw; go_simp; try with_reducible rfl⟩) HSW.out ?_
  simp only [Act.put, List.setIfInBounds_toArray, List.getElem_toArray, List.getElem_cons_succ, List.getElem_cons_zero, List.set_cons_succ, List.set_cons_zero]
  refine wpAnyZ_one (i := 14) (by kernel_rfl) rfl (fun K hK => ?_)
  try rw [if_pos (by rfl)]
  go_simp
  refine (HCA.out _ (HK1.out.trans HK0d.out)).mono ?_
  rintro e w2 ⟨A2, c2, qs, rfl, hqs, hrd⟩
  have hk2 : Keeps nobody w1.drew w2 := Keeps.new hrd.below
  have HQS := Lib.hid hqs
  have HRD := Lib.hid hrd.row.strong
  have HK2 := Lib.hid (HK0d.out.trans hk2)
  obtain ⟨jc, hKK⟩ : ∃ q, q = J.1 := ⟨_, rfl⟩
  rw [← hKK]
  have HKJ := Lib.hid hKK
  clear hKK
  have hC2 := HC.out.keeps HK2.out (fun h => h)
  have o3 : w2.cell? ⟨rp + 1 + 1, 3, none⟩ = some (.int .i64 0) := by rw [hC2.cell]; rfl
  have of3 := hC2.frozen 3
  have HC2 := Lib.hid hC2
  have HS2 := Lib.hid (And.intro (cell_quiet HSW.out.1 hk2) (And.intro (cell_quiet HSW.out.2.1 hk2) (cell_quiet HSW.out.2.2 hk2)))
  clear hqs hrd hk2 hC2
  refine hK.out _ _ (fun _ => HS2.out) ?_
  clear hK K
  try simp only [Act.put, List.setIfInBounds_toArray, Nat.reduceAdd, List.getElem_toArray, List.getElem_cons_succ, List.getElem_cons_zero, List.set_cons_succ, List.set_cons_zero]
  refine wpAnyZ_take (i := 15) rfl (by kernel_rfl) (fun _ _ _ h => h) (Or.inl ⟨by rfl, by intro w hSw; obtain ⟨s0, s1, s2⟩ := hSw; go_simp; try with_reducible rfl⟩) HS2.out ?_
  simp only [Act.put, List.setIfInBounds_toArray, List.getElem_toArray, List.getElem_cons_succ, List.getElem_cons_zero, List.set_cons_succ, List.set_cons_zero]
  refine wpAnyZ_take (i := 16) rfl (by kernel_rfl) (fun _ _ _ h => h) (Or.inl ⟨by rfl, by intro w hSw; obtain ⟨s0, s1, s2⟩ := hSw; go_simp; try with_reducible rfl⟩) HS2.out ?_
  simp only [Act.put, List.setIfInBounds_toArray, List.getElem_toArray, List.getElem_cons_succ, List.getElem_cons_zero, List.set_cons_succ, List.set_cons_zero]
  refine wpAnyZ_take (i := 17) rfl (by kernel_rfl) (fun _ _ _ h => h) (Or.inl ⟨by rfl, by intro w hSw; obtain ⟨s0, s1, s2⟩ := hSw; go_simp; try with_reducible rfl⟩) HS2.out ?_
  simp only [Act.put, List.setIfInBounds_toArray, List.getElem_toArray, List.getElem_cons_succ, List.getElem_cons_zero, List.set_cons_succ, List.set_cons_zero]
  refine wpAnyZ_take (i := 18) rfl (by kernel_rfl) (fun _ _ _ h => h) (Or.inl ⟨by rfl, by intro w hSw; obtain ⟨s0, s1, s2⟩ := hSw; go_simp; try with_reducible rfl⟩) HS2.out ?_
  simp only [Act.put, List.setIfInBounds_toArray, List.getElem_toArray, List.getElem_cons_succ, List.getElem_cons_zero, List.set_cons_succ, List.set_cons_zero]
  refine wpAnyZ_one (i := 19) (by kernel_rfl) rfl (fun K hK => ?_)
  try rw [if_pos (by rfl)]
  go_simp
  have KC : Keeps (only (rp + 1 + 1)) w2 (w2.setCell ⟨rp + 1 + 1, 3, none⟩ (.int .i64 (jc : Int))) := (Keeps.refl _ w2).put 3 _
  have hgc : g ≠ rp + 1 + 1 := by have := HGL.out; omega
  have HS3 := Lib.hid (And.intro (cell_far KC hgc HS2.out.1) (And.intro (cell_far KC hgc HS2.out.2.1) (cell_far KC hgc HS2.out.2.2)))
  have HC3 := Lib.hid (HC2.out.set 3 (.int .i64 (jc : Int)))
  have hC3 := HC3.out
  have o4 : (w2.setCell ⟨rp + 1 + 1, 3, none⟩ (.int .i64 (jc : Int))).cell? ⟨rp + 1 + 1, 4, none⟩ = some (.slice none 0 0) := by rw [hC3.cell]; rfl
  have of4 := hC3.frozen 4
  have HKC := Lib.hid KC
  clear KC hgc hC3
  refine hK.out _ _ (fun _ => HS3.out) ?_
  clear hK K
  try simp only [Act.put, List.setIfInBounds_toArray, Nat.reduceAdd, List.getElem_toArray, List.getElem_cons_succ, List.getElem_cons_zero, List.set_cons_succ, List.set_cons_zero]
  refine wpAnyZ_take (i := 20) rfl (by kernel_rfl) (fun _ _ _ h => h) (Or.inl ⟨by rfl, by intro w hSw; obtain ⟨s0, s1, s2⟩ := hSw; go_simp; try with_reducible rfl⟩) HS3.out ?_
  simp only [Act.put, List.setIfInBounds_toArray, List.getElem_toArray, List.getElem_cons_succ, List.getElem_cons_zero, List.set_cons_succ, List.set_cons_zero]
  have HC4 := Lib.hid (HC3.out.set 4 (.slice A2 qs.length c2))
  have HKK := Lib.hid (HKC.out.put 4 (.slice A2 qs.length c2))
  refine wpAnyZ_one (i := 21) (by kernel_rfl) rfl (fun K hK => ?_)
  go_simp
  refine hK.out _ _ (fun h => absurd rfl h) ?_
  clear hK K
  refine wpAnyZ_done (by kernel_rfl) ?_ _
  generalize hw4 : World.setCell _ ⟨rp + 1 + 1, 4, none⟩ _ = w4 at HC4 HKK ⊢
  have hrg : g ≠ rp + 1 + 1 := by have := HGL.out; omega
  have hrm : f.gm ≠ rp + 1 + 1 := by have := HML.out; omega
  have HN4 := Lib.hid ((H1.out.keeps HK2.out (fun h => h) (fun h => h) (fun _ _ h => h)).keeps HKK.out hrg hrm (fun b hb e => by have e : b = rp + 1 + 1 := e; have := HRL.out b hb; omega))
  have HO4 := Lib.hid ((HO.out.keeps HK2.out (fun h => h)).keeps HKK.out (fun e => by have e : rp + 1 = rp + 1 + 1 := e; omega))
  have hsz1 : rp + 1 + 1 < w1.drew.heap.size := (HC.out.keeps HK0d.out (fun h => h)).lt
  have HR4 := Lib.hid ((HRD.out.keeps HKK.out (fun b hb e => by have e : b = rp + 1 + 1 := e; have := hb.1; omega)).mono (G := fun b => rp + 1 + 1 < b ∧ b < w4.heap.size) (fun b hb => ⟨Nat.lt_of_lt_of_le hsz1 hb.1, Nat.lt_of_lt_of_le hb.2 HKK.out.size⟩))
  have HK4 := Lib.hid (show Keeps nobody w w4 from (HK1.out.trans HK2.out).trans' HKK.out (fun i hi hl => by have e : i = rp + 1 + 1 := hi; have := HRP.out; omega))
  have HKZ4 := Lib.hid (Keeps.refl nobody w4)
  have x3 : w4.cell? ⟨rp + 1 + 1, 3, none⟩ = some (.int .i64 (jc : Int)) := by rw [HC4.out.cell]; rfl
  clear hw4 hrg hrm hsz1 o3 of3 o4 of4 HC2 HC3 HKC
  by_cases hk2 : jc = 2
  · subst hk2
    have HE := Lib.hid (show ev = 6 from HEV.out.trans (if_pos HKJ.out.symm))
    have x3 : w4.cell? ⟨rp + 1 + 1, 3, none⟩ = some (.int .i64 2) := x3
    go_upto_region 6 with fail
    refine wp_region_Z (fun w' => Blk w' (rp + 1 + 1) 82 #[.int .i64 1, .int .i64 pi, .slice DA pd.length dc, .int .i64 2, .slice A2 qs.length c2]) 2 3 rfl (by kernel_rfl) HC4.out (fun hHeld => ?_)
    have HSW := hHeld
    clear hHeld
    have HK0d := Lib.hid (HKZ4.out.drew)
    refine wpAnyZ_take (i := 0) rfl (by kernel_rfl) (fun _ _ _ h => h) (Or.inl ⟨by rfl, by intro w hSw; have s0 : w.cell? ⟨rp + 1 + 1, 0, none⟩ = some (.int .i64 1) := (by rw [Blk.cell hSw]; rfl); have s1 : w.cell? ⟨rp + 1 + 1, 1, none⟩ = some (.int .i64 pi) := (by rw [Blk.cell hSw]; rfl); have s2 : w.cell? ⟨rp + 1 + 1, 2, none⟩ = some (.slice DA pd.length dc) := (by rw [Blk.cell hSw]; rfl); have s3 : w.cell? ⟨rp + 1 + 1, 3, none⟩ = some (.int .i64 2) := (by rw [Blk.cell hSw]; rfl); have s4 : w.cell? ⟨rp + 1 + 1, 4, none⟩ = some (.slice A2 qs.length c2) := (by rw [Blk.cell hSw]; rfl); go_simp; try with_reducible rfl⟩) HSW.out ?_
    simp only [Act.put, List.setIfInBounds_toArray, List.getElem_toArray, List.getElem_cons_zero, List.set_cons_succ, List.set_cons_zero]
    refine wpAnyZ_take (i := 1) rfl (by kernel_rfl) (fun _ _ _ h => h) (Or.inl ⟨by rfl, by intro w hSw; skip; go_simp; try with_reducible rfl⟩) HSW.out ?_
    simp only [Act.put, List.setIfInBounds_toArray, List.getElem_toArray, List.getElem_cons_succ, List.getElem_cons_zero, List.set_cons_succ, List.set_cons_zero]
    have hOz := HO4.out
    have y0 : w4.cell? ⟨rp + 1, 0, none⟩ = some (.int .i64 0) := by rw [hOz.cell]; rfl
    have v0 := hOz.frozen 0
    have y1 : w4.cell? ⟨rp + 1, 1, none⟩ = some (.int .i64 0) := by rw [hOz.cell]; rfl
    have v1 := hOz.frozen 1
    have y2 : w4.cell? ⟨rp + 1, 2, none⟩ = some (.slice none 0 0) := by rw [hOz.cell]; rfl
    have v2 := hOz.frozen 2
    have y3 : w4.cell? ⟨rp + 1, 3, none⟩ = some (.int .i64 0) := by rw [hOz.cell]; rfl
    have v3 := hOz.frozen 3
    have y4 : w4.cell? ⟨rp + 1, 4, none⟩ = some (.slice none 0 0) := by rw [hOz.cell]; rfl
    have v4 := hOz.frozen 4
    have HZ := Lib.hid (((((hOz.set 0 (.int .i64 1)).set 1 (.int .i64 pi)).set 2 (.slice DA pd.length dc)).set 3 (.int .i64 2)).set 4 (.slice A2 qs.length c2))
    have HKR := Lib.hid (((((((Keeps.refl (only (rp + 1)) w4).put 0 (.int .i64 1)).put 1 (.int .i64 pi)).put 2 (.slice DA pd.length dc)).put 3 (.int .i64 2)).put 4 (.slice A2 qs.length c2)).drew)
    clear hOz
    refine wpAnyZ_one (i := 2) (by kernel_rfl) rfl (fun K hK => ?_)
    go_simp
    refine hK.out _ _ (fun h => absurd rfl h) ?_
    clear hK K
    refine wpAnyZ_done (by kernel_rfl) ?_ _
    go_wp2_with fail
    refine bodyPost_ret (results_tmp_row rfl _ _ (rp + 1) 82 _ (0, 0) _ rfl HZ.out Tryz.underlying82 rfl (by rw [HI.out]; rfl)) rfl ?_
    rw [HE.out, ← HKJ.out]
    exact ⟨_, qs, f, R, rfl, (HR4.out.keeps HKR.out (fun b hb e => by have e : b = rp + 1 := e; have := hb.1; omega)).mono (fun b hb => ⟨by have := HRP.out; have := hb.1; omega, Nat.lt_of_lt_of_le hb.2 HKR.out.size⟩), HQS.out, HFQ.out qs HQS.out, HN4.out.keeps HKR.out (fun e => by have e : g = rp + 1 := e; have := HGL.out; omega) (fun e => by have e : f.gm = rp + 1 := e; have := HML.out; omega) (fun b hb e => by have e : b = rp + 1 := e; have := HRL.out b hb; omega), rfl, fun b hb => .inl hb, (HK4.out.mono (fun _ h => h.elim)).trans' HKR.out (fun i hi hl => by have e : i = rp + 1 := hi; have := HRP.out; omega)⟩
  · have hne : (((jc : Nat) : Int) == 2) = false := by rw [beq_eq_false_iff_ne]; omega
    have HE := Lib.hid (show ev = 7 from HEV.out.trans (if_neg (by rw [← HKJ.out]; exact hk2)))
    go_upto_region 7 with fail
    refine wp_region_Z (fun w' => Blk w' (rp + 1 + 1) 82 #[.int .i64 1, .int .i64 pi, .slice DA pd.length dc, .int .i64 (jc : Int), .slice A2 qs.length c2]) 2 3 rfl (by kernel_rfl) HC4.out (fun hHeld => ?_)
    have HSW := hHeld
    clear hHeld
    have HK0d := Lib.hid (HKZ4.out.drew)
    refine wpAnyZ_take (i := 0) rfl (by kernel_rfl) (fun _ _ _ h => h) (Or.inl ⟨by rfl, by intro w hSw; have s0 : w.cell? ⟨rp + 1 + 1, 0, none⟩ = some (.int .i64 1) := (by rw [Blk.cell hSw]; rfl); have s1 : w.cell? ⟨rp + 1 + 1, 1, none⟩ = some (.int .i64 pi) := (by rw [Blk.cell hSw]; rfl); have s2 : w.cell? ⟨rp + 1 + 1, 2, none⟩ = some (.slice DA pd.length dc) := (by rw [Blk.cell hSw]; rfl); have s3 : w.cell? ⟨rp + 1 + 1, 3, none⟩ = some (.int .i64 (jc : Int)) := (by rw [Blk.cell hSw]; rfl); have s4 : w.cell? ⟨rp + 1 + 1, 4, none⟩ = some (.slice A2 qs.length c2) := (by rw [Blk.cell hSw]; rfl); go_simp; try with_reducible rfl⟩) HSW.out ?_
    simp only [Act.put, List.setIfInBounds_toArray, List.getElem_toArray, List.getElem_cons_zero, List.set_cons_succ, List.set_cons_zero]
    refine wpAnyZ_take (i := 1) rfl (by kernel_rfl) (fun _ _ _ h => h) (Or.inl ⟨by rfl, by intro w hSw; skip; go_simp; try with_reducible rfl⟩) HSW.out ?_
    simp only [Act.put, List.setIfInBounds_toArray, List.getElem_toArray, List.getElem_cons_succ, List.getElem_cons_zero, List.set_cons_succ, List.set_cons_zero]
    have hOz := HO4.out
    have y0 : w4.cell? ⟨rp + 1, 0, none⟩ = some (.int .i64 0) := by rw [hOz.cell]; rfl
    have v0 := hOz.frozen 0
    have y1 : w4.cell? ⟨rp + 1, 1, none⟩ = some (.int .i64 0) := by rw [hOz.cell]; rfl
    have v1 := hOz.frozen 1
    have y2 : w4.cell? ⟨rp + 1, 2, none⟩ = some (.slice none 0 0) := by rw [hOz.cell]; rfl
    have v2 := hOz.frozen 2
    have y3 : w4.cell? ⟨rp + 1, 3, none⟩ = some (.int .i64 0) := by rw [hOz.cell]; rfl
    have v3 := hOz.frozen 3
    have y4 : w4.cell? ⟨rp + 1, 4, none⟩ = some (.slice none 0 0) := by rw [hOz.cell]; rfl
    have v4 := hOz.frozen 4
    have HZ := Lib.hid (((((hOz.set 0 (.int .i64 1)).set 1 (.int .i64 pi)).set 2 (.slice DA pd.length dc)).set 3 (.int .i64 (jc : Int))).set 4 (.slice A2 qs.length c2))
    have HKR := Lib.hid (((((((Keeps.refl (only (rp + 1)) w4).put 0 (.int .i64 1)).put 1 (.int .i64 pi)).put 2 (.slice DA pd.length dc)).put 3 (.int .i64 (jc : Int))).put 4 (.slice A2 qs.length c2)).drew)
    clear hOz
    refine wpAnyZ_one (i := 2) (by kernel_rfl) rfl (fun K hK => ?_)
    go_simp
    refine hK.out _ _ (fun h => absurd rfl h) ?_
    clear hK K
    refine wpAnyZ_done (by kernel_rfl) ?_ _
    go_wp2_with fail
    refine bodyPost_ret (results_tmp_row rfl _ _ (rp + 1) 82 _ (0, 0) _ rfl HZ.out Tryz.underlying82 rfl (by rw [HI.out]; rfl)) rfl ?_
    rw [HE.out, ← HKJ.out]
    exact ⟨_, qs, f, R, rfl, (HR4.out.keeps HKR.out (fun b hb e => by have e : b = rp + 1 := e; have := hb.1; omega)).mono (fun b hb => ⟨by have := HRP.out; have := hb.1; omega, Nat.lt_of_lt_of_le hb.2 HKR.out.size⟩), HQS.out, HFQ.out qs HQS.out, HN4.out.keeps HKR.out (fun e => by have e : g = rp + 1 := e; have := HGL.out; omega) (fun e => by have e : f.gm = rp + 1 := e; have := HML.out; omega) (fun b hb e => by have e : b = rp + 1 := e; have := HRL.out b hb; omega), rfl, fun b hb => .inl hb, (HK4.out.mono (fun _ h => h.elim)).trans' HKR.out (fun i hi hl => by have e : i = rp + 1 := hi; have := HRP.out; omega)⟩
end Go.Proofs.YtjomcffhbaplcaaGreatDoor
/- Package nego: heed, of whatever is not dropped. -/
namespace Go.Proofs.YtjomcffhbaplcaaGreatDoor
open Go.RowKit
theorem heeds_same (n : Pure.Neg) (p : Pure.Pkt) (j : Nat × List Pure.Opt) : (n.heedsBy p j).2.1.m = n.m ∧ (n.heedsBy p j).2.1.naks = n.naks ∧ (n.heedsBy p j).2.1.rules = n.rules ∧ (n.heedsBy p j).2.2.p = p := by
  unfold Pure.Neg.heedsBy
  split
  · exact ⟨rfl, rfl, rfl, rfl⟩
  split
  · exact ⟨rfl, rfl, rfl, rfl⟩
  split
  · exact ⟨rfl, rfl, rfl, rfl⟩
  split
  · exact ⟨rfl, rfl, rfl, rfl⟩
  split
  · exact ⟨rfl, rfl, rfl, rfl⟩
  split
  · exact ⟨rfl, rfl, rfl, rfl⟩
  split <;> exact ⟨rfl, rfl, rfl, rfl⟩
theorem heed_by (R F Fz : Nat → Prop) (g : Nat) (f : NF) (n : Pure.Neg) (p : Pure.Pkt) (J : Nat × List Pure.Opt) (d uv : Value) (zs : List (Value × Pure.Opt)) (w : World) (h : NObj w g R f n) (hd : Row w F 1 d p.data.length (u8s p.data)) (hz : ORow w Fz uv zs) (he : optsOf zs = hears p) (hFz : ∀ b, Fz b → b ≠ g) (hnr : ¬ n.refuses p)
    (hJ : p.code = 1 → JudgedBy f.gm.j w uv (decide (n.m.tries ≤ n.naks)) J) (hfq : p.code = 1 → ∀ qs : List (Value × Pure.Opt), optsOf qs = J.2 → FewOpts qs) :
    Calls Tryz.prog 42 #[.pointer (some ⟨g, 0, none⟩), pktV p d, uv] w fun e w' => Heeded w g R f p d (n.heedsBy p J) e w' := by
  obtain ⟨pc, pi, pd⟩ := p
  dsimp only at hd
  obtain ⟨DA, dc, hform, _⟩ := hd.form
  unfold Pure.Neg.heedsBy
  dsimp only
  by_cases c1 : pc = 1
  · subst c1
    rw [if_pos rfl, hform]
    exact heed_req R Fz g f n zs J pi pd DA dc uv w h hz (hJ rfl) (hfq rfl) _ rfl
  rw [if_neg c1]
  by_cases c2 : pc = 2
  · subst c2
    rw [if_pos rfl, hform]
    exact heed_ack R g f n pi pd DA dc uv w h
  rw [if_neg c2]
  by_cases c3 : pc = 3
  · subst c3
    have hs : (Pure.split pd).1 = 0 := Classical.byContradiction fun e => hnr (.inr (.inr (.inl ⟨.inr (.inl rfl), .inr (.inl e)⟩)))
    have he : optsOf zs = (Pure.split pd).2 := he.trans (hears_some (.inr (.inr (.inl rfl))))
    rw [if_pos rfl, ← he, hform]
    exact heed_nak R g f n Fz zs pi pd DA dc uv w h hz (by rw [he]; exact Pure.fine_of_split hs) hFz
  rw [if_neg c3]
  by_cases c4 : pc = 4
  · subst c4
    have hs : (Pure.split pd).1 = 0 := Classical.byContradiction fun e => hnr (.inr (.inr (.inl ⟨.inr (.inr rfl), .inr (.inl e)⟩)))
    have he : optsOf zs = (Pure.split pd).2 := he.trans (hears_some (.inr (.inr (.inr rfl))))
    rw [if_pos rfl, ← he, hform]
    exact heed_rej R g f n Fz zs pi pd DA dc uv w h hz (by rw [he]; exact Pure.fine_of_split hs) hFz
  rw [if_neg c4]
  by_cases c5 : pc = 5
  · subst c5
    rw [if_pos rfl, hform]
    exact heed_end R g f n pi pd DA dc uv w h
  rw [if_neg c5]
  by_cases c6 : pc = 6
  · subst c6
    rw [if_pos rfl, hform]
    exact heed_ended R g f n pi pd DA dc uv w h
  rw [if_neg c6]
  by_cases c7 : pc = 7
  · subst c7
    rw [if_pos rfl]
    have hne : pd ≠ [] := fun e => hnr (.inr (.inr (.inr ⟨rfl, e⟩)))
    cases pd with
    | nil => exact absurd rfl hne
    | cons b r =>
      rw [hform] at hd ⊢
      obtain ⟨_, _, A', c', e, _, _, hh⟩ := hd
      obtain ⟨db, doff, rfl, _, hc⟩ := hh (by simp)
      injection e with e1 _ _
      subst e1
      have h0 : w.cell? ⟨db, doff, none⟩ = some (.int .u8 (b.toNat : Nat)) := hc 0 _ rfl
      rw [List.headD_cons]
      exact heed_rejected R g f n pi b r db doff dc _ uv w h rfl h0
  · rw [if_neg c7, hform]
    exact heed_unknown R g f n pc pi pd DA dc uv w h (by omega)
end Go.Proofs.YtjomcffhbaplcaaGreatDoor
