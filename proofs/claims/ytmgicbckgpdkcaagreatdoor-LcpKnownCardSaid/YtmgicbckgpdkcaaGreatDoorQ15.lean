/- There and back, for packets and options. Nothing of the program. -/
import Derived.Test.YtmgicbckgpdkcaaGreatDoorQ13
import Derived.Test.YtmgicbckgpdkcaaGreatDoorQ14
import Derived.Test.YtmgicbckgpdkcaaGreatDoorQ1
import Derived.Test.YtmgicbckgpdkcaaGreatDoorQ2
import Derived.Laws.BytesString
import Derived.Lib.BufferRead
import Derived.Test.YtmgicbckgpdkcaaGreatDoorQ4
namespace Go.Proofs.YtmgicbckgpdkcaaGreatDoor
set_option maxRecDepth 100000
set_option maxHeartbeats 4000000
open Lib renaming hid → xhd
open List renaming setIfInBounds_toArray → xqA, getElem_toArray → xqB, getElem_cons_succ → xqC, getElem_cons_zero → xqD, set_cons_succ → xqE, set_cons_zero → xqF
namespace Pure
theorem u8_nat (n : Nat) (h : n < 256) : (UInt8.ofNat n).toNat = n := by rw [UInt8.toNat_ofNat']; omega
theorem joined_cons (o : Opt) (l : List Opt) : joined (o :: l) = UInt8.ofNat o.1.toNat :: UInt8.ofNat (o.2.length + 2) :: (o.2 ++ joined l) := by simp [joined, Opt.bytes]
theorem split_joined (l : List Opt) : ∀ (acc : List Opt), (∀ o ∈ l, ¬ Opt.odd o) → acc.length + l.length ≤ 32 → splitFrom (joined l) acc = (0, acc ++ l) := by
 induction l with
 | nil => intro acc _ _; simp [joined, splitFrom_nil]
 | cons o l ih =>
  intro acc ho hl
  obtain ⟨t, d⟩ := o
  have hodd : 0 ≤ t ∧ t ≤ 255 ∧ d.length ≤ 253 := by
   have := ho (t, d) (by simp)
   unfold Opt.odd at this
   dsimp only at this
   omega
  rw [joined_cons]
  dsimp only
  have h1 : (UInt8.ofNat (d.length + 2)).toNat = d.length + 2 := u8_nat _ (by omega)
  have h0 : (UInt8.ofNat t.toNat).toNat = t.toNat := u8_nat _ (by omega)
  simp only [List.length_cons] at hl
  rw [splitFrom_step (by simp) (by omega)]
  ·have e0 : (UInt8.ofNat t.toNat :: UInt8.ofNat (d.length + 2) :: (d ++ joined l)).getD 0 0 = UInt8.ofNat t.toNat := rfl
   have e1 : (UInt8.ofNat t.toNat :: UInt8.ofNat (d.length + 2) :: (d ++ joined l)).getD 1 0 = UInt8.ofNat (d.length + 2) := rfl
   rw [e0, e1, h0, h1]
   have ed : (UInt8.ofNat t.toNat :: UInt8.ofNat (d.length + 2) :: (d ++ joined l)).drop (d.length + 2) = joined l := by simp
   have et : ((UInt8.ofNat t.toNat :: UInt8.ofNat (d.length + 2) :: (d ++ joined l)).drop 2).take (d.length + 2 - 2) = d := by simp
   rw [ed, et, ih _ (fun o h => ho o (by simp [h])) (by rw [List.length_append]; simp only [List.length_cons, List.length_nil]; omega)]
   rw [show ((t.toNat : Nat) : Int) = t by omega]
   simp
  ·have e1 : (UInt8.ofNat t.toNat :: UInt8.ofNat (d.length + 2) :: (d ++ joined l)).getD 1 0 = UInt8.ofNat (d.length + 2) := rfl
   rw [e1, h1]
   simp
theorem options_back {l : List Opt} (h : (options l).1 = 0) : split (options l).2 = (0, l) ∧ l.length ≤ 32 ∧ ∀ o ∈ l, ¬ Opt.odd o := by
 unfold options at h ⊢
 split at h
 ·simp at h
 ·split at h
  ·simp at h
  ·rename_i h1 h2
   have ho : ∀ o ∈ l, ¬ Opt.odd o := fun o hm hodd => h2 ⟨o, hm, hodd⟩
   rw [if_neg h1, if_neg h2]
   refine ⟨?_, by omega, ho⟩
   have := split_joined l [] ho (by simp; omega)
   simpa [split] using this
end Pure
namespace Pure
def begun (rules : List Rule) (ask : List Opt) (t u : Nat) : Neg := ⟨rules, ask, ask, ⟨6, t - 1, u, t, u⟩, 1, 1, 0, true, [], [], 0, (options ask).2⟩
def sends (l : List Pkt) : Said := ⟨l, false, false, false, false⟩
end Pure
namespace Pure
def deadRule : Rule := ⟨0, 0, 0, 0, 0, [], false⟩
theorem take_snoc {α : Type} (l : List α) (k : Nat) (o : α) (h : l[k]? = some o) : l.take (k + 1) = l.take k ++ [o] := by
 rw [List.take_add_one, h]
 rfl
end Pure
open Go.RowKit
theorem flat_at {α : Type} (f : α → List Value) (n : Nat) (hf : ∀ a, (f a).length = n) (ps : List α) (k j : Nat) (p : α) (h : ps[k]? = some p) (hj : j < n) : (ps.flatMap f)[k * n + j]? = (f p)[j]? := by
 induction ps generalizing k with
 | nil => simp at h
 | cons q ps ih =>
  rw [List.flatMap_cons]
  rcases k with _ | k
  ·simp at h
   subst h
   rw [Nat.zero_mul, Nat.zero_add, List.getElem?_append_left (by rw [hf]; exact hj)]
  ·rw [List.getElem?_append_right (by rw [hf, Nat.add_mul]; omega), hf]
   have := ih k (by simpa using h)
   rw [← this]
   congr 1
   rw [Nat.add_mul]
   omega
abbrev ruleCells (p : Value × Pure.Rule) : List Value := [.int .i64 p.2.type, .int .i64 p.2.len, .int .i64 p.2.how, .int .i64 p.2.lo, .int .i64 p.2.hi, p.1, .bool p.2.need]
abbrev ruleV (p : Value × Pure.Rule) : Value := .agg (ruleCells p).toArray
abbrev rulesCells (ps : List (Value × Pure.Rule)) : List Value := ps.flatMap ruleCells
theorem rulesCells_at (ps : List (Value × Pure.Rule)) (k j : Nat) (p : Value × Pure.Rule) (h : ps[k]? = some p) (hj : j < 7) : (rulesCells ps)[k * 7 + j]? = (ruleCells p)[j]? := flat_at ruleCells 7 (fun _ => rfl) ps k j p h hj
structure RRow (w : World) (F : Nat → Prop) (x : Value) (ps : List (Value × Pure.Rule)) : Prop where
 out : Row w F 7 x ps.length (rulesCells ps)
 rows : ∀ p ∈ ps, Row w F 1 p.1 p.2.want.length (u8s p.2.want)
theorem RRow.keeps {S F : Nat → Prop} {w w' : World} {x : Value} {ps : List (Value × Pure.Rule)} (h : RRow w F x ps) (k : Keeps S w w') (hs : ∀ b, F b → ¬ S b) : RRow w' F x ps :=
 ⟨h.out.keeps k hs, fun p hp => (h.rows p hp).keeps k hs⟩
theorem RRow.mono {F G : Nat → Prop} {w : World} {x : Value} {ps : List (Value × Pure.Rule)} (h : RRow w F x ps) (hG : ∀ b, F b → G b) : RRow w G x ps :=
 ⟨h.out.mono hG, fun p hp => (h.rows p hp).mono hG⟩
theorem RRow.nil (w : World) (F : Nat → Prop) : RRow w F (.slice none 0 0) [] := ⟨Row.nil _ _ _, by simp⟩
theorem RRow.form {w : World} {F : Nat → Prop} {x : Value} {ps : List (Value × Pure.Rule)} (h : RRow w F x ps) : ∃ A c, x = .slice A ps.length c ∧ ps.length ≤ c := by
 obtain ⟨_, _, A, c, rfl, hc, _⟩ := h.out
 exact ⟨A, c, rfl, hc⟩
theorem RRow.pick {w : World} {F : Nat → Prop} {X : Option Addr} {n cx : Nat} {ps : List (Value × Pure.Rule)} (h : RRow w F (.slice X n cx) ps) (k : Nat) (hk : k < ps.length) :
  ∃ p o A c r, X = some ⟨p, o, none⟩ ∧ F p ∧ (∀ j u, (ruleCells (.slice A r.want.length c, r))[j]? = some u → w.cell? ⟨p, o + k * 7 + j, none⟩ = some u) ∧ Row w F 1 (.slice A r.want.length c) r.want.length (u8s r.want) ∧ ps[k]? = some (.slice A r.want.length c, r) := by
 obtain ⟨_, _, A', c', e, _, _, hh⟩ := h.out
 obtain ⟨p, o, rfl, hF, hc⟩ := hh (by omega)
 injection e with e1 _ _
 have hget := List.getElem?_eq_getElem hk
 have hr := h.rows ps[k] (List.getElem_mem hk)
 obtain ⟨A, c, hform, _⟩ := hr.form
 refine ⟨p, o, A, c, ps[k].2, e1, hF, fun j u hu => ?_, by rw [← hform]; exact hr, by rw [hget, ← hform]⟩
 rw [← hform] at hu
 have hj : j < 7 := (List.getElem?_eq_some_iff.1 hu).1
 rw [Nat.add_assoc]
 exact hc (k * 7 + j) u ((rulesCells_at ps k j _ hget hj).trans hu)
theorem bclone_any (F : Nat → Prop) (x : Value) (n : Nat) (l : List UInt8) (w : World) (hr : Row w F 1 x n (u8s l)) (hn : n ≤ 140737488355328) :
  Calls Tryz.prog 143 #[x] w fun e w' => ∃ v, e = .returned v ∧ w'.ownsRow w.heap.size 5 1 v n (u8s l) ∧ Below w.heap.size w w' := by
 obtain ⟨i0, hi0, hz0, hz1, hz2⟩ := info_parts u8_info
 have hr' := hr
 obtain ⟨hl, hm, A, c, rfl, hc, hA, hcell⟩ := hr
 rcases A with _ | ad
 ·obtain rfl := hA rfl
  have hl0 : u8s l = [] := List.eq_nil_of_length_eq_zero (by simpa using hl)
  clear hcell hA hl
  have hq := fun (W : World) => Lib.run_eql_slice_nil (P := Tryz.prog) W 29 5 none 0 c 0 0 Tryz.underlying29
  go_enter Tryz.func143, Tryz.ntmps143
  go_wp2
  go_ret
  refine ⟨_, rfl, ⟨by rw [hl0]; rfl, .inl ⟨rfl, rfl⟩⟩, Below.refl _ _⟩
 ·have HL := xhd hl
  have hbw : Row (w.alloc (.cells #[] 5)) F 1 (.slice (some ad) n c) n (u8s l) :=
   hr'.cellsOf fun b off u _ hu => (World.cell?_alloc_lt w _ ⟨b, off, none⟩ (cell_lt hu)).trans hu
  clear hl hcell hA hr'
  have hq := fun (W : World) => Lib.run_eql_slice_nil (P := Tryz.prog) W 29 5 (some ad) n c 0 0 Tryz.underlying29
  go_enter Tryz.func143, Tryz.ntmps143
  go_wp2_with (at_builtin; refine stopHere ?_)
  unfold Hid
  refine wpList_append_row rfl (.tmp 5) (.tmp 6) _ rfl w.heap.size 5 i0 _ 1 1 Tryz.underlying29 hi0 hz0 hz1 hz2 rfl (by omega) (.slice (some ⟨w.heap.size, 0, none⟩) 0 0) 0 []
   rfl (ownsRow_made _ _ _ _ (Nat.le_refl _)) F _ n (u8s l) rfl hbw (u8s_cells l) (by omega) (by omega) (by simp) ?_
  intro v1 w1 hown1 hg1 hat1
  go_wp2
  go_ret
  refine ⟨v1, rfl, by simpa using hown1, ((Below.refl _ _).alloc (Nat.le_refl _) _).grown hg1 (by simp) ?_⟩
  intro k hk
  simp [Value.ownBlock] at hk
  omega
abbrev rulesOf (ps : List (Value × Pure.Rule)) : List Pure.Rule := ps.map Prod.snd
theorem option_info2 : (Tryz.prog.info? 31).map (·.size) = some 2 := by kernel_rfl
theorem results_row1 {P : Program} {fn : Func} {p : Tmp} {ty : TypeId} (h : fn.results = #[.cell p ty]) (tmps : Array Value) (w : World) (g : Nat) (t : TypeId) (cs : Array Value) (fr : Nat × Nat) (d : TypeDesc)
  (hp : tmps.getD p undef = .pointer (some ⟨g, 0, none⟩)) (hg : w.heap[g]? = some (.cells cs t fr))
  (hu : P.underlying ty = some d) (hd : (match d with | .struct _ | .array _ _ => true | _ => false) = true) (hi : (P.info? ty).map (·.size) = some cs.size) :
  (results fn tmps).run P w = .ok (.agg cs) w := by
 have hp' : tmps[p]?.getD undef = .pointer (some ⟨g, 0, none⟩) := by simpa using hp
 simp [results, h, hp', asAddr, run_loadVar_row w g t ty cs fr d hg hu hd hi]
theorem copied_any (F : Nat → Prop) (v : Value) (t : Int) (D : List UInt8) (w : World) (hr : Row w F 1 v D.length (u8s D)) (hl : D.length ≤ 1000000) :
  Calls Tryz.prog 156 #[optV (v, (t, D))] w fun e w' => ∃ A c, e = .returned (.agg #[.int .i64 t, .slice A D.length c]) ∧ Row w' (fun b => w.heap.size ≤ b) 1 (.slice A D.length c) D.length (u8s D) ∧ Keeps nobody w w' := by
 obtain ⟨A, c, rfl, _⟩ := hr.form
 have HR := xhd hr
 have HI := xhd option_info2
 clear hr
 obtain ⟨g, hg⟩ : ∃ g, g = w.heap.size := ⟨_, rfl⟩
 go_enter Tryz.func156, Tryz.ntmps156
 go_upto_region 1 with fail
 generalize hw1 : (w.alloc _).alloc _ = w1
 rw [← hg]
 have HK := xhd (show Keeps nobody w w1 by rw [← hw1]; exact ((Keeps.refl nobody w).alloc _).alloc _)
 have HSZ := xhd (show w1.heap.size = g + 2 by rw [← hw1, hg]; simp)
 have HC := xhd (show w1.cell? ⟨g, 0, none⟩ = some (.int .i64 t) ∧ w1.cell? ⟨g, 1, none⟩ = some (.slice A D.length c) ∧ Blk w1 (g + 1) 31 #[.int .i64 0, .slice none 0 0] by
  have hb : Blk w1 g 31 #[.int .i64 t, .slice A D.length c] := by rw [← hw1, hg]; exact (Blk.new w _ _).alloc _
  refine ⟨by rw [hb.cell]; rfl, by rw [hb.cell]; rfl, ?_⟩
  rw [← hw1, show g + 1 = (w.alloc (.cells #[.int .i64 t, .slice A D.length c] 31)).heap.size by rw [hg]; simp]
  exact Blk.new _ _ _)
 have HG := xhd hg
 clear hw1 hg
 refine wp_region_Z (fun w' => w'.cell? ⟨g, 0, none⟩ = some (.int .i64 t) ∧ w'.cell? ⟨g, 1, none⟩ = some (.slice A D.length c) ∧ Blk w' (g + 1) 31 #[.int .i64 0, .slice none 0 0]) 6 7 rfl (by kernel_rfl) ⟨HC.out.1, HC.out.2.1, HC.out.2.2⟩ (fun hHeld => ?_)
 have HSW := hHeld
 clear hHeld
 have HK0d := xhd (HK.out.drew)
 refine wpAnyZ_take (i := 0) rfl (by kernel_rfl) (fun _ _ _ h => h) (Or.inl ⟨by rfl, by intro w hSw; obtain ⟨s0, s1, s2⟩ := hSw; go_simp; try with_reducible rfl⟩) HSW.out ?_
 simp only [Act.put, xqA, xqB, xqD, xqE, xqF]
 refine wpAnyZ_take (i := 1) rfl (by kernel_rfl) (fun _ _ _ h => h) (Or.inl ⟨by rfl, by intro w hSw; obtain ⟨s0, s1, s2⟩ := hSw; go_simp; try with_reducible rfl⟩) HSW.out ?_
 simp only [Act.put, xqA, xqB, xqC, xqD, xqE, xqF]
 refine wpAnyZ_take (i := 2) rfl (by kernel_rfl) (fun _ _ _ h => h) (Or.inl ⟨by rfl, by intro w hSw; obtain ⟨s0, s1, s2⟩ := hSw; go_simp; try with_reducible rfl⟩) HSW.out ?_
 simp only [Act.put, xqA, xqB, xqC, xqD, xqE, xqF]
 refine wpAnyZ_take (i := 3) rfl (by kernel_rfl) (fun _ _ _ h => h) (Or.inl ⟨by rfl, by intro w hSw; obtain ⟨s0, s1, s2⟩ := hSw; go_simp; try with_reducible rfl⟩) HSW.out ?_
 simp only [Act.put, xqA, xqB, xqC, xqD, xqE, xqF]
 refine wpAnyZ_one (i := 4) (by kernel_rfl) rfl (fun K hK => ?_)
 try rw [if_pos (by rfl)]
 go_simp
 refine (bclone_any F (.slice A D.length c) _ D _ (HR.out.keeps HK0d.out (fun _ _ h => h)) (by omega)).mono ?_
 rintro e w2 ⟨u, rfl, hu, hb⟩
 obtain ⟨A2, cc2, rfl⟩ := own_form hu
 have hk2 := Keeps.new hb
 have HK2 := xhd (HK0d.out.trans hk2)
 have HU := xhd ((Row.of_own hu).mono (G := fun b => w1.heap.size ≤ b) (fun b hb => ownsRow_ge hu b hb))
 have HS2 := xhd (And.intro (cell_quiet HSW.out.1 hk2) (And.intro (cell_quiet HSW.out.2.1 hk2) (HSW.out.2.2.keeps hk2 (fun h => h))))
 clear hu hb hk2
 refine hK.out _ _ (fun _ => HS2.out) ?_
 clear hK K
 try simp only [Act.put, xqA, Nat.reduceAdd, xqB, xqC, xqD, xqE, xqF]
 refine wpAnyZ_take (i := 5) rfl (by kernel_rfl) (fun _ _ _ h => h) (Or.inl ⟨by rfl, by intro w hSw; obtain ⟨s0, s1, s2⟩ := hSw; go_simp; try with_reducible rfl⟩) HS2.out ?_
 simp only [Act.put, xqA, xqB, xqC, xqD, xqE, xqF]
 have hB := HS2.out.2.2
 have HZ := xhd ((hB.set 0 (.int .i64 t)).set 1 (.slice A2 D.length cc2))
 have HKS := xhd ((HK2.out.store (g + 1) 0 (fun h => by have := HG.out; omega) (.int .i64 t)).store (g + 1) 1 (fun h => by have := HG.out; omega) (.slice A2 D.length cc2))
 have HRW := xhd ((HU.out.keeps (((Keeps.refl (only (g + 1)) w2).store (g + 1) 0 (fun _ => rfl) (.int .i64 t)).store (g + 1) 1 (fun _ => rfl) (.slice A2 D.length cc2)) (fun b hb e => by have e : b = g + 1 := e; have := HSZ.out; omega)).mono (G := fun b => w.heap.size ≤ b) (fun b hb => by have := HSZ.out; have := HG.out; omega))
 have o0 : w2.cell? ⟨g + 1, 0, none⟩ = some (.int .i64 0) := by rw [hB.cell]; rfl
 have o1 : w2.cell? ⟨g + 1, 1, none⟩ = some (.slice none 0 0) := by rw [hB.cell]; rfl
 have f0 := hB.frozen 0
 have f1 := hB.frozen 1
 clear hB
 refine wpAnyZ_one (i := 6) (by kernel_rfl) rfl (fun K hK => ?_)
 go_simp
 refine hK.out _ _ (fun h => absurd rfl h) ?_
 clear hK K
 refine wpAnyZ_done (by kernel_rfl) ?_ _
 go_wp2_with fail
 refine bodyPost_ret (results_row1 rfl _ _ (g + 1) 31 _ (0, 0) _ rfl HZ.out Tryz.underlying31 rfl (by rw [HI.out]; rfl)) rfl ?_
 exact ⟨A2, cc2, rfl, HRW.out, HKS.out⟩
theorem copies_any (F : Nat → Prop) (x : Value) (ps : List (Value × Pure.Opt)) (w : World) (hx : ORow w F x ps) (hl : ps.length ≤ 100000) (hd : ∀ p ∈ ps, p.2.2.length ≤ 100000) :
  Calls Tryz.prog 117 #[x] w fun e w' => ∃ u, ∃ qs : List (Value × Pure.Opt), e = .returned u ∧ optsOf qs = optsOf ps ∧ Read w w' u qs := by
 obtain ⟨X, cx, rfl, _⟩ := hx.form
 have HX := xhd hx
 have HDL := xhd hd
 clear hx hd
 obtain ⟨cs, hrun, hrd0⟩ := made_read w ps.length (by omega)
 obtain ⟨w1, hw1⟩ : ∃ w1, w1 = w.alloc (.cells cs 31) := ⟨_, rfl⟩
 rw [← hw1] at hrun hrd0
 have HRD0 := xhd hrd0
 clear hrd0 hw1
 go_enter Tryz.func117, Tryz.ntmps117
 go_wp2_with fail
 go_loopw [3, 11] (fun v i wr => ∃ k : Nat, k ≤ ps.length ∧ i = .int .i64 (k : Int) ∧ ∃ qs : List (Value × Pure.Opt), optsOf qs = (optsOf ps).take k ∧ Read w wr v qs) (fun _ i _ => ps.length - (intOf i).toNat)
 case atStart => exact ⟨0, by omega, rfl, [], rfl, HRD0.out⟩
 case round =>
  clear hrun HRD0
  obtain ⟨k, hk, rfl, qs, hqs, hrd⟩ := hrel
  have hql : qs.length = k := by
   have := congrArg List.length hqs
   simp at this
   omega
  obtain ⟨A2, c2, rfl⟩ := own_form hrd.own
  subst hql
  have HQS := xhd hqs
  have HRD := xhd hrd
  clear hqs hrd
  by_cases hkl : qs.length < ps.length
  ·have i0' : (0 : Int) ≤ (qs.length : Int) := by omega
   have i1 : (qs.length : Int) < (ps.length : Int) := by omega
   have d1 : decide ((qs.length : Int) < (ps.length : Int)) = true := decide_eq_true (by omega)
   have d2 : decide (qs.length < ps.length) = true := decide_eq_true hkl
   obtain ⟨bx, ox, A1, c1, t, D, rfl, hFb, x0, x1, hra, hpa⟩ := (HX.out.keeps (Keeps.new HRD.out.below) (fun _ _ h => h)).pick qs.length hkl
   have hDl : D.length ≤ 100000 := HDL.out _ (List.mem_of_getElem? hpa)
   have HTK := xhd (show (optsOf ps).take (qs.length + 1) = (optsOf ps).take qs.length ++ [(t, D)] from opt_take _ qs.length _ (by rw [List.getElem?_map, hpa]; rfl))
   have HRA := xhd hra
   clear hra hpa
   go_upto_region 5 with fail
   obtain ⟨wb, hwb⟩ : ∃ wb, wb = wr.alloc (.cells #[.int .i64 t, .slice A1 D.length c1] 31) := ⟨_, rfl⟩
   obtain ⟨gb, hgb⟩ : ∃ gb, gb = wr.heap.size := ⟨_, rfl⟩
   rw [← hwb, ← hgb]
   have hkb : Keeps nobody wr wb := by rw [hwb]; exact (Keeps.refl _ wr).alloc _
   have hbb : Blk wb gb 31 #[.int .i64 t, .slice A1 D.length c1] := by rw [hwb, hgb]; exact Blk.new wr _ _
   have y0 : wb.cell? ⟨gb, 0, none⟩ = some (.int .i64 t) := by rw [hbb.cell]; rfl
   have y1 : wb.cell? ⟨gb, 1, none⟩ = some (.slice A1 D.length c1) := by rw [hbb.cell]; rfl
   have HCP := xhd (copied_any F (.slice A1 D.length c1) t D wb (HRA.out.keeps hkb (fun _ _ h => h)) (by omega))
   have HKb := xhd hkb
   clear hwb hgb hbb hkb x0 x1
   go_wp2_with fail
   refine HCP.out.mono ?_
   rintro e w2 ⟨A3, c3, rfl, hu, hk2⟩
   have hkr : Keeps nobody wr w2 := HKb.out.trans hk2
   have hR2 := HRD.out.keeps hkr
   have HU := xhd (HRD.out.fresh (hu.mono (G := fun b => wr.heap.size ≤ b) (fun b hb => Nat.le_trans HKb.out.size hb)))
   have HR2 := xhd hR2
   clear hu hk2 hkr hR2 HCP y0 y1
   go_wp2_with (at_builtin; refine stopHere ?_)
   unfold Hid
   refine wp_append_opt rfl (.tmp 15) (.tmp 18) rfl _ qs A3 c3 t D rfl rfl HR2.out (by omega) HU.out ?_
   intro A4 c4 w3 hread hkw
   have HRead := xhd hread
   clear hread hkw
   go_wp2_with fail
   go_roundw
   case rel => exact ⟨qs.length + 1, by omega, by go_num, _, by rw [HTK.out, ← HQS.out]; simp [optsOf], HRead.out⟩
   case measure => simp [intOf] <;> omega
  ·have hkk : qs.length = ps.length := by omega
   have d1 : decide ((qs.length : Int) < (ps.length : Int)) = false := decide_eq_false (by omega)
   have d2 : decide (qs.length < ps.length) = false := decide_eq_false (by omega)
   have HE := xhd (show optsOf qs = optsOf ps by rw [HQS.out]; exact List.take_of_length_le (by simp; omega))
   go_wp2
   go_ret
   exact ⟨_, qs, rfl, HE.out, HRD.out⟩
namespace Pure
def Rule.Ok (r : Rule) : Prop := 1 ≤ r.len → r.len ≤ 4 → 0 ≤ r.lo ∧ r.lo ≤ r.hi ∧ r.hi < 4294967296
end Pure
theorem set_back (m : Nat) (L : List UInt8) (B : UInt8) : (List.replicate (m + 1) 0 ++ L).set m B = List.replicate m 0 ++ B :: L := by
 rw [List.replicate_succ', List.append_assoc, List.set_append_right _ _ (by simp)]
 simp
theorem wide_at (x n m : Nat) (h : m < n) : (Pure.wide x n).drop m = UInt8.ofNat (x / 256 ^ (n - 1 - m) % 256) :: (Pure.wide x n).drop (m + 1) := by
 have hl : m < (Pure.wide x n).length := by rw [Pure.wide_length]; exact h
 rw [List.drop_eq_getElem_cons hl]
 congr 1
 simp [Pure.wide]
theorem encoded_any (x n : Nat) (w : World) (hn : n ≤ 4) (_ : x < 4294967296) :
  Calls Tryz.prog 92 #[.int .i64 x, .int .i64 n] w fun e w' => ∃ A c, e = .returned (.slice A n c) ∧ Row w' (fun b => w.heap.size ≤ b) 1 (.slice A n c) n (u8s (Pure.wide x n)) ∧ Keeps nobody w w' := by
 go_enter Tryz.func92, Tryz.ntmps92
 go_wp2_with (at_make; refine stopHere ?_)
 unfold Hid
 refine wpList_make_u8 rfl _ _ rfl n .i64 .i64 rfl rfl (by omega) ?_
 intro w1 hX hk hs
 obtain ⟨g, hg⟩ : ∃ g, g = w.heap.size := ⟨_, rfl⟩
 rw [← hg] at hX ⊢
 have HX := xhd hX
 have HK := xhd hk
 have HG := xhd hg
 clear hX hk hs hg
 go_wp2_with fail
 go_loopw [12] (fun v wr => ∃ k : Nat, k ≤ n ∧ v = .int .i64 (k : Int) ∧ Blk wr g 5 (u8s (List.replicate (n - k) 0 ++ (Pure.wide x n).drop (n - k))).toArray ∧ Keeps (only g) w1 wr) (fun v _ => n - (intOf v).toNat)
 case atStart =>
  refine ⟨0, by omega, rfl, ?_, Keeps.refl _ _⟩
  rw [Nat.sub_zero, List.drop_of_length_le (by rw [Pure.wide_length]; omega), List.append_nil]
  exact HX.out
 case round =>
  clear HX
  obtain ⟨k, hk, rfl, hX, hK⟩ := hrel
  have HX := xhd hX
  have HK2 := xhd hK
  by_cases hkl : k < n
  ·obtain ⟨m, hm⟩ : ∃ m, n - 1 - k = m := ⟨_, rfl⟩
   have hnk : n - k = m + 1 := by omega
   have hi0 : (0 : Int) ≤ (n : Int) - 1 - (k : Int) := by omega
   have hi1 : (n : Int) - 1 - (k : Int) < (n : Int) := by omega
   have e1 : wrap64 ((n : Int) - 1) = (n : Int) - 1 := IntWalk.wrap64_in _ (by omega)
   have e3 : wrap64 (8 * (k : Int)) = ((8 * k : Nat) : Int) := by rw [IntWalk.wrap64_in _ (by omega)]; omega
   obtain ⟨B, hBe⟩ : ∃ B, B = UInt8.ofNat (x / 256 ^ k % 256) := ⟨_, rfl⟩
   have hbv : ((x : Int) / 2 ^ (8 * k) % 256) = (B.toNat : Int) := by
    rw [hBe, show (UInt8.ofNat (x / 256 ^ k % 256)).toNat = x / 256 ^ k % 256 by simp, show (256 : Nat) ^ k = 2 ^ (8 * k) by rw [Nat.pow_mul]]
    simp
   rw [hnk] at HX
   have hlen : (List.replicate (m + 1) 0 ++ (Pure.wide x n).drop (m + 1)).length = n := by simp [Pure.wide_length]; omega
   have k0 : wr.cell? ⟨g, m, none⟩ = some (.int .u8 ((List.replicate (m + 1) 0 ++ (Pure.wide x n).drop (m + 1)).getD m 0).toNat) := by rw [HX.out.cell, ← u8s_at _ m (by omega)]; simp only [List.getElem?_toArray]
   obtain ⟨old, hold⟩ : ∃ old, old = (List.replicate (m + 1) 0 ++ (Pure.wide x n).drop (m + 1)).getD m 0 := ⟨_, rfl⟩
   rw [← hold] at k0
   have f0 : wr.frozen? ⟨g, m, none⟩ = false := HX.out.frozen m
   have HS := xhd (show Blk (wr.setCell ⟨g, m, none⟩ (.int .u8 B.toNat)) g 5 (u8s (List.replicate m 0 ++ (Pure.wide x n).drop m)).toArray by
    have h := HX.out.set m (.int .u8 B.toNat)
    have e : (u8s (List.replicate (m + 1) 0 ++ (Pure.wide x n).drop (m + 1))).toArray.setIfInBounds m (.int .u8 B.toNat) = (u8s (List.replicate m 0 ++ (Pure.wide x n).drop m)).toArray := by
     rw [wide_at x n m (by omega), show n - 1 - m = k by omega, ← hBe, ← set_back, xqA]
     congr 1
     rw [← List.map_set]
    rw [e] at h
    exact h)
   have HKS := xhd (HK2.out.store g m (fun _ => rfl) (.int .u8 B.toNat))
   have HM := xhd (show m = n - (k + 1) by omega)
   subst hm
   clear hX hK hold hlen hBe hnk
   go_wp2_with fail
   go_roundw
   case rel =>
    refine ⟨k + 1, by omega, by go_num, ?_, HKS.out⟩
    rw [← HM.out]
    exact HS.out
   case measure => simp [intOf]; omega
  ·have hkk : k = n := by omega
   subst hkk
   have HR := xhd (show Row wr (fun b => w.heap.size ≤ b) 1 (.slice (some ⟨g, 0, none⟩) k k) k (u8s (Pure.wide x k)) by
    have h := HX.out
    rw [Nat.sub_self] at h
    have := Row.block (F := fun b => w.heap.size ≤ b) (size := 1) (n := k) (c := k) h (by rw [HG.out]; exact Nat.le_refl _) (by simp [Pure.wide_length]) (by unfold maxLen; omega) (Nat.le_refl _)
    simpa using this)
   have HKE := xhd (show Keeps nobody w wr from (HK.out.trans' HK2.out (fun i hi hl => by have e : i = g := hi; have := HG.out; omega)))
   clear hX hK HX HK HK2
   go_wp2_with fail
   go_ret
   exact ⟨_, _, rfl, HR.out, HKE.out⟩
namespace Pure
end Pure
namespace Pure
end Pure
abbrev pktV (p : Pure.Pkt) (v : Value) : Value := .agg #[.int .i64 p.code, .int .i64 p.id, v]
end Go.Proofs.YtmgicbckgpdkcaaGreatDoor
