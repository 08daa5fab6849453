/- The document's find: the first rule of a Type. -/
import Derived.Test.YteajofcdiankiaaQ45
import Derived.Test.YteajofcdiankiaaQ5
import Derived.Test.YteajofcdiankiaaQ4
import Derived.Test.YteajofcdiankiaaQ41
namespace Go.Proofs.Yteajofcdiankiaa
open Go.RowKit
theorem rule_info : (Try.prog.info? 53).map (·.size) = some 7 := by kernel_rfl
def noRule : Pure.Rule := ⟨0, 0, 0, 0, 0, [], false⟩
theorem ruleOf_snoc (rs : List Pure.Rule) (r : Pure.Rule) (t : Int) (h : Pure.ruleOf rs t = none) : Pure.ruleOf (rs ++ [r]) t = if r.type = t then some r else none := by
  unfold Pure.ruleOf at h ⊢
  rw [List.find?_append, h]
  by_cases ht : r.type = t
  · simp [ht]
  · simp [ht]
theorem ruleOf_prefix (rs more : List Pure.Rule) (r : Pure.Rule) (t : Int) (h : Pure.ruleOf rs t = some r) : Pure.ruleOf (rs ++ more) t = some r := by
  unfold Pure.ruleOf at h ⊢
  rw [List.find?_append, h]
  rfl
/-- What find answers. -/
def Found (w : World) (e : Ending) (w' : World) (ps : List (Value × Pure.Rule)) (t : Int) : Prop :=
  ∃ (p : Value × Pure.Rule) (b : Bool), e = .returned (.tuple #[ruleV p, .bool b]) ∧ Keeps nobody w w' ∧ ((b = true ∧ p ∈ ps ∧ Pure.ruleOf (ps.map Prod.snd) t = some p.2) ∨ (b = false ∧ p = (.slice none 0 0, noRule) ∧ Pure.ruleOf (ps.map Prod.snd) t = none))
set_option maxRecDepth 100000 in
set_option maxHeartbeats 4000000 in
theorem docfind_any (F : Nat → Prop) (x : Value) (ps : List (Value × Pure.Rule)) (t : Int) (w : World) (hx : RRow w F x ps) :
    Calls Try.prog 25 #[x, .int .i64 t] w fun e w' => Found w e w' ps t := by
  obtain ⟨A, c, rfl, _⟩ := hx.form
  have hm := hx.out.2.1
  unfold maxLen at hm
  have HX := Lib.hid hx
  clear hx
  have HI := Lib.hid rule_info
  obtain ⟨g, hg⟩ : ∃ g, g = w.heap.size := ⟨_, rfl⟩
  go_enter Try.func25, Try.ntmps25
  go_upto_region 1 with fail
  rw [← hg]
  generalize hw1 : w.alloc _ = w1
  have hB : Blk w1 g 53 #[.int .i64 0, .int .i64 0, .int .i64 0, .int .i64 0, .int .i64 0, .slice none 0 0, .bool false] := by rw [← hw1, hg]; exact Blk.new w _ _
  have HB := Lib.hid hB
  have HK := Lib.hid (show Keeps nobody w w1 by rw [← hw1]; exact (Keeps.refl _ w).alloc _)
  have HG := Lib.hid hg
  have HX1 := Lib.hid (HX.out.keeps HK.out (fun _ _ h => h))
  clear hw1 hg hB HX
  go_wp2_with fail
  go_loopw [6] (fun i wr => ∃ k : Nat, k ≤ ps.length ∧ i = .int .i64 (k : Int) ∧ Pure.ruleOf ((ps.map Prod.snd).take k) t = none ∧ wr = w1) (fun i _ => ps.length - (intOf i).toNat)
  case atStart => exact ⟨0, by omega, rfl, rfl, rfl⟩
  case round =>
    obtain ⟨k, hk, rfl, hH, rfl⟩ := hrel
    have HH := Lib.hid hH
    clear hH
    have cz0 : wr.cell? ⟨g, 0, none⟩ = some (.int .i64 0) := by rw [HB.out.cell]; rfl
    have fz0 := HB.out.frozen 0
    have cz1 : wr.cell? ⟨g, 1, none⟩ = some (.int .i64 0) := by rw [HB.out.cell]; rfl
    have fz1 := HB.out.frozen 1
    have cz2 : wr.cell? ⟨g, 2, none⟩ = some (.int .i64 0) := by rw [HB.out.cell]; rfl
    have fz2 := HB.out.frozen 2
    have cz3 : wr.cell? ⟨g, 3, none⟩ = some (.int .i64 0) := by rw [HB.out.cell]; rfl
    have fz3 := HB.out.frozen 3
    have cz4 : wr.cell? ⟨g, 4, none⟩ = some (.int .i64 0) := by rw [HB.out.cell]; rfl
    have fz4 := HB.out.frozen 4
    have cz5 : wr.cell? ⟨g, 5, none⟩ = some (.slice none 0 0) := by rw [HB.out.cell]; rfl
    have fz5 := HB.out.frozen 5
    have cz6 : wr.cell? ⟨g, 6, none⟩ = some (.bool false) := by rw [HB.out.cell]; rfl
    have fz6 := HB.out.frozen 6
    by_cases hkl : k < ps.length
    · have i0 : (0 : Int) ≤ (k : Int) := by omega
      have i1 : (k : Int) < (ps.length : Int) := by omega
      have d1 : decide ((k : Int) < (ps.length : Int)) = true := decide_eq_true (by omega)
      have d2 : decide (k < ps.length) = true := decide_eq_true hkl
      obtain ⟨pb, po, A5, c5, r, rfl, hFp, hcell, hwant, hpa⟩ := HX1.out.pick k (by omega)
      have x0 : wr.cell? ⟨pb, po + k * 7, none⟩ = some (.int .i64 r.type) := hcell 0 _ rfl
      have x1 := hcell 1 _ rfl
      have x2 := hcell 2 _ rfl
      have x3 := hcell 3 _ rfl
      have x4 := hcell 4 _ rfl
      have x5 := hcell 5 _ rfl
      have x6 := hcell 6 _ rfl
      have htk : (ps.map Prod.snd).take (k + 1) = (ps.map Prod.snd).take k ++ [r] := by
        rw [List.take_add_one, List.getElem?_map, hpa]; rfl
      have HS := Lib.hid (show Pure.ruleOf ((ps.map Prod.snd).take (k + 1)) t = if r.type = t then some r else none by rw [htk]; exact ruleOf_snoc _ r t HH.out)
      have HPA := Lib.hid hpa
      clear hcell hwant hpa htk
      by_cases hst : r.type = t
      · have HE := Lib.hid (show Pure.ruleOf (ps.map Prod.snd) t = some r by
          have h := HS.out
          rw [if_pos hst] at h
          have := ruleOf_prefix _ ((ps.map Prod.snd).drop (k + 1)) r t h
          rwa [List.take_append_drop] at this)
        have dq : (r.type == t) = true := by rw [beq_iff_eq]; exact hst
        have hB := HB.out
        have HZS := Lib.hid (((((((hB.set 0 (.int .i64 r.type)).set 1 (.int .i64 r.len)).set 2 (.int .i64 r.how)).set 3 (.int .i64 r.lo)).set 4 (.int .i64 r.hi)).set 5 (.slice A5 r.want.length c5)).set 6 (.bool r.need))
        have HKS := Lib.hid (((((((HK.out.store g 0 (fun h => by have := HG.out; omega) (.int .i64 r.type)).store g 1 (fun h => by have := HG.out; omega) (.int .i64 r.len)).store g 2 (fun h => by have := HG.out; omega) (.int .i64 r.how)).store g 3 (fun h => by have := HG.out; omega) (.int .i64 r.lo)).store g 4 (fun h => by have := HG.out; omega) (.int .i64 r.hi)).store g 5 (fun h => by have := HG.out; omega) (.slice A5 r.want.length c5)).store g 6 (fun h => by have := HG.out; omega) (.bool r.need))
        clear hB hst
        go_wp2_with fail
        refine bodyPost_ret (results_row_tmp rfl _ _ g 53 _ (0, 0) _ rfl HZS.out Try.underlying53 rfl (by rw [HI.out]; rfl)) rfl ?_
        exact ⟨(.slice A5 r.want.length c5, r), true, rfl, HKS.out, .inl ⟨rfl, List.mem_of_getElem? HPA.out, HE.out⟩⟩
      · have dq : (r.type == t) = false := by rw [beq_eq_false_iff_ne]; exact hst
        go_wp2_with fail
        go_roundw
        case rel => exact ⟨k + 1, by omega, by go_num, by rw [HS.out, if_neg hst], trivial⟩
        case measure => simp [intOf] <;> omega
    · have hkk : k = ps.length := by omega
      subst hkk
      have d1 : decide ((ps.length : Int) < (ps.length : Int)) = false := decide_eq_false (by omega)
      have d2 : decide (ps.length < ps.length) = false := decide_eq_false (by omega)
      have HE := Lib.hid (show Pure.ruleOf (ps.map Prod.snd) t = none by
        have h := HH.out
        rwa [List.take_of_length_le (by simp)] at h)
      have hB := HB.out
      have HZS := Lib.hid (((((((hB.set 0 (.int .i64 0)).set 1 (.int .i64 0)).set 2 (.int .i64 0)).set 3 (.int .i64 0)).set 4 (.int .i64 0)).set 5 (.slice none 0 0)).set 6 (.bool false))
      have HKS := Lib.hid (((((((HK.out.store g 0 (fun h => by have := HG.out; omega) (.int .i64 0)).store g 1 (fun h => by have := HG.out; omega) (.int .i64 0)).store g 2 (fun h => by have := HG.out; omega) (.int .i64 0)).store g 3 (fun h => by have := HG.out; omega) (.int .i64 0)).store g 4 (fun h => by have := HG.out; omega) (.int .i64 0)).store g 5 (fun h => by have := HG.out; omega) (.slice none 0 0)).store g 6 (fun h => by have := HG.out; omega) (.bool false))
      clear hB
      go_wp2_with fail
      refine bodyPost_ret (results_row_tmp rfl _ _ g 53 _ (0, 0) _ rfl HZS.out Try.underlying53 rfl (by rw [HI.out]; rfl)) rfl ?_
      exact ⟨(.slice none 0 0, noRule), false, rfl, HKS.out, .inr ⟨rfl, rfl, HE.out⟩⟩
end Go.Proofs.Yteajofcdiankiaa
/- The document's offers: what a rule offers. -/
namespace Go.Proofs.Yteajofcdiankiaa
open Go.RowKit
theorem option_size : (Try.prog.info? 32).map (·.size) = some 2 := by kernel_rfl
/-- What offers answers. -/
def Offered (w : World) (e : Ending) (w' : World) : Option Pure.Opt → Prop
  | none => e = .returned (.tuple #[.agg #[.int .i64 0, .slice none 0 0], .bool false]) ∧ Keeps nobody w w'
  | some o => ∃ A c, e = .returned (.tuple #[.agg #[.int .i64 o.1, .slice A o.2.length c], .bool true]) ∧ Row w' (fun b => w.heap.size ≤ b) 1 (.slice A o.2.length c) o.2.length (u8s o.2) ∧ Keeps nobody w w'
set_option maxRecDepth 100000 in
set_option maxHeartbeats 8000000 in
theorem docoffers_three (F G : Nat → Prop) (v x : Value) (r : Pure.Rule) (l : List UInt8) (w : World) (hr : Row w F 1 x l.length (u8s l)) (hv : Row w G 1 v r.want.length (u8s r.want)) (hG : ∀ b, G b → b < w.heap.size) (hw : r.want.length ≤ 1000) (h3 : r.how = 3) :
    Calls Try.prog 28 #[ruleV (v, r), x] w fun e w' => Offered w e w' (r.offers l) := by
  obtain ⟨A, c, rfl, _⟩ := hr.form
  obtain ⟨A2, cc2, rfl, _⟩ := hv.form
  have HI := Lib.hid option_size
  have ho : r.offers l = some (r.type, r.want) := by
    unfold Pure.Rule.offers
    rw [if_neg (by rw [h3]; simp), if_pos h3]
  rw [ho]
  have HV := Lib.hid hv
  have HGl := Lib.hid hG
  have HH3 := Lib.hid h3
  clear ho hr hv hG h3
  obtain ⟨g, hg⟩ : ∃ g, g = w.heap.size := ⟨_, rfl⟩
  go_enter Try.func28, Try.ntmps28
  go_upto_region 1 with fail
  generalize hw1 : (w.alloc _).alloc _ = w1
  rw [← hg]
  have HK := Lib.hid (show Keeps nobody w w1 by rw [← hw1]; exact ((Keeps.refl nobody w).alloc _).alloc _)
  have HB := Lib.hid (show Blk w1 (g + 1) 32 #[.int .i64 0, .slice none 0 0] by
    rw [← hw1, show g + 1 = (w.alloc (.cells (ruleCells (.slice A2 r.want.length cc2, r)).toArray 53)).heap.size by rw [hg]; simp]
    exact Blk.new _ _ _)
  have HC := Lib.hid (fun j u (h : (ruleCells (.slice A2 r.want.length cc2, r))[j]? = some u) => show w1.cell? ⟨g, j, none⟩ = some u by
    have hb : Blk w1 g 53 (ruleCells (.slice A2 r.want.length cc2, r)).toArray := by rw [← hw1, hg]; exact (Blk.new w _ _).alloc _
    rw [hb.cell, List.getElem?_toArray]; exact h)
  have HG := Lib.hid hg
  have z0 := HC.out 0 _ rfl
  have z1 := HC.out 1 _ rfl
  have z2 := HC.out 2 _ rfl
  have z3 := HC.out 3 _ rfl
  have z4 := HC.out 4 _ rfl
  have z5 := HC.out 5 _ rfl
  clear hw1 hg
  rw [HH3.out] at z2
  go_wp2_with fail
  clear z0 z1 z2 z3 z4 z5
  refine wp_region_Z (fun w' => ∀ j u, (ruleCells (.slice A2 r.want.length cc2, r))[j]? = some u → w'.cell? ⟨g, j, none⟩ = some u) 7 8 rfl (by kernel_rfl) (fun j u h => HC.out j u h) (fun hHeld => ?_)
  have HSW := hHeld
  clear hHeld
  refine wpAnyZ_take (i := 0) rfl (by kernel_rfl) (fun _ _ _ h => h) (Or.inl ⟨by rfl, by intro w hSw; have c0 := hSw 0 _ rfl; have c1 := hSw 1 _ rfl; have c2 := hSw 2 _ rfl; have c3 := hSw 3 _ rfl; have c4 := hSw 4 _ rfl; have c5 := hSw 5 _ rfl; have c6 := hSw 6 _ rfl; go_simp; try with_reducible rfl⟩) HSW.out ?_
  simp only [Act.put, List.setIfInBounds_toArray, List.getElem_toArray, List.getElem_cons_zero, List.set_cons_succ, List.set_cons_zero]
  refine wpAnyZ_take (i := 1) rfl (by kernel_rfl) (fun _ _ _ h => h) (Or.inl ⟨by rfl, by intro w hSw; have c0 := hSw 0 _ rfl; have c1 := hSw 1 _ rfl; have c2 := hSw 2 _ rfl; have c3 := hSw 3 _ rfl; have c4 := hSw 4 _ rfl; have c5 := hSw 5 _ rfl; have c6 := hSw 6 _ rfl; go_simp; try with_reducible rfl⟩) HSW.out ?_
  simp only [Act.put, List.setIfInBounds_toArray, List.getElem_toArray, List.getElem_cons_succ, List.getElem_cons_zero, List.set_cons_succ, List.set_cons_zero]
  refine wpAnyZ_take (i := 2) rfl (by kernel_rfl) (fun _ _ _ h => h) (Or.inl ⟨by rfl, by intro w hSw; have c0 := hSw 0 _ rfl; have c1 := hSw 1 _ rfl; have c2 := hSw 2 _ rfl; have c3 := hSw 3 _ rfl; have c4 := hSw 4 _ rfl; have c5 := hSw 5 _ rfl; have c6 := hSw 6 _ rfl; go_simp; try with_reducible rfl⟩) HSW.out ?_
  simp only [Act.put, List.setIfInBounds_toArray, List.getElem_toArray, List.getElem_cons_succ, List.getElem_cons_zero, List.set_cons_succ, List.set_cons_zero]
  refine wpAnyZ_take (i := 3) rfl (by kernel_rfl) (fun _ _ _ h => h) (Or.inl ⟨by rfl, by intro w hSw; have c0 := hSw 0 _ rfl; have c1 := hSw 1 _ rfl; have c2 := hSw 2 _ rfl; have c3 := hSw 3 _ rfl; have c4 := hSw 4 _ rfl; have c5 := hSw 5 _ rfl; have c6 := hSw 6 _ rfl; go_simp; try with_reducible rfl⟩) HSW.out ?_
  simp only [Act.put, List.setIfInBounds_toArray, List.getElem_toArray, List.getElem_cons_succ, List.getElem_cons_zero, List.set_cons_succ, List.set_cons_zero]
  refine wpAnyZ_one (i := 4) (by kernel_rfl) rfl (fun K hK => ?_)
  go_simp
  refine (copy_any G (.slice A2 r.want.length cc2) r.want w1.drew ((HV.out.keeps HK.out (fun _ _ h => h)).keeps (Keeps.refl nobody _).drew (fun _ _ h => h)) (fun b hb => Nat.lt_of_lt_of_le (HGl.out b hb) HK.out.size) (by omega)).mono ?_
  rintro e w3 ⟨u, rfl, hu, hb3⟩
  have hk3 : Keeps nobody w1 w3 := Keeps.new ⟨hb3.os, hb3.tape, hb3.output, hb3.size, hb3.block⟩
  have HSW1 := Lib.hid (fun j u (h : (ruleCells (.slice A2 r.want.length cc2, r))[j]? = some u) => opt_quiet (HC.out j u h) hk3)
  refine hK.out _ _ (fun _ => HSW1.out) ?_
  clear hK K HSW
  have HSW := HSW1
  clear HSW1
  obtain ⟨A3, c3, rfl⟩ := own_form hu
  have HU3 := Lib.hid (Row.of_own hu)
  have HGE := Lib.hid (fun b hb => ownsRow_ge hu b hb)
  have HB3 := Lib.hid (HB.out.keeps hk3 (fun x => x))
  have HBL := Lib.hid HB.out.lt
  have HK3 := Lib.hid (HK.out.trans hk3)
  clear hu hb3 hk3
  try simp only [Act.put, List.setIfInBounds_toArray, Nat.reduceAdd, List.getElem_toArray, List.getElem_cons_succ, List.getElem_cons_zero, List.set_cons_succ, List.set_cons_zero]
  refine wpAnyZ_take (i := 5) rfl (by kernel_rfl) (fun _ _ _ h => h) (Or.inl ⟨by rfl, by intro w hSw; have c0 := hSw 0 _ rfl; have c1 := hSw 1 _ rfl; have c2 := hSw 2 _ rfl; have c3 := hSw 3 _ rfl; have c4 := hSw 4 _ rfl; have c5 := hSw 5 _ rfl; have c6 := hSw 6 _ rfl; go_simp; try with_reducible rfl⟩) HSW.out ?_
  simp only [Act.put, List.setIfInBounds_toArray, List.getElem_toArray, List.getElem_cons_succ, List.getElem_cons_zero, List.set_cons_succ, List.set_cons_zero]
  refine wpAnyZ_one (i := 6) (by kernel_rfl) rfl (fun K hK => ?_)
  rw [if_pos (by rfl)]
  refine wp_store_row 32 (.tmp 4) (.tmp 59) rfl (g + 1) _ rfl rfl 32 _ HB3.out (by rw [HI.out]; rfl) rfl (by simp [Value.oneCell']) ?_
  obtain ⟨w4, hw4⟩ : ∃ w4, w4 = w3.setRow (g + 1) #[.int .i64 r.type, .slice A3 r.want.length c3] := ⟨_, rfl⟩
  have hb4 : Blk w4 (g + 1) 32 #[.int .i64 r.type, .slice A3 r.want.length c3] := by rw [hw4]; exact Blk.rowSet HB3.out _
  have hkg : Keeps (only (g + 1)) w3 w4 := by rw [hw4]; exact (Keeps.refl (only (g + 1)) w3).rowSet (fun _ => rfl) _
  have hk4 : Keeps nobody w w4 := by rw [hw4]; exact HK3.out.rowSet (fun h => by have := HG.out; omega) _
  have hu4 : Row w4 (fun b => w.heap.size ≤ b) 1 (.slice A3 r.want.length c3) r.want.length (u8s r.want) := (HU3.out.keeps hkg (fun b hb hs => by have h1 := HGE.out b hb; have h2 : b = g + 1 := hs; have h3 := HBL.out; change w1.heap.size ≤ b at h1; omega)).mono (G := fun b => w.heap.size ≤ b) (fun b hb => Nat.le_trans HK.out.size (HGE.out b hb))
  have HU4 := Lib.hid hu4
  have HB4 := Lib.hid hb4
  have HK4 := Lib.hid hk4
  have HS4 := Lib.hid (fun j u (h : (ruleCells (.slice A2 r.want.length cc2, r))[j]? = some u) => (World.cell?_of_block (w := w3) (a := ⟨g, j, none⟩) (hkg.block g (cell_lt (HSW.out j u h)) (fun h => by have h : g = g + 1 := h; omega))).trans (HSW.out j u h))
  refine hK.out _ _ (fun _ => ?_) ?_
  · rw [← hw4]; exact HS4.out
  rw [← hw4]
  simp only [Act.put]
  clear hK K hw4 hb4 hkg hk4 hu4
  refine wpAnyZ_one (i := 7) (by kernel_rfl) rfl (fun K hK => ?_)
  go_simp
  refine hK.out _ _ (fun _ => HS4.out) ?_
  clear hK K
  refine wpAnyZ_done (by kernel_rfl) ?_ _
  go_wp2_with fail
  refine bodyPost_ret (results_row_tmp rfl _ _ (g + 1) 32 _ (0, 0) _ rfl HB4.out Try.underlying32 rfl (by rw [HI.out]; rfl)) rfl ?_
  exact ⟨A3, c3, rfl, HU4.out, HK4.out⟩
end Go.Proofs.Yteajofcdiankiaa
