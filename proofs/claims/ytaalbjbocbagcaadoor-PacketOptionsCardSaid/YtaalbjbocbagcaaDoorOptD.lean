/- The document's Split: bytes as options. -/
import Derived.Test.YtaalbjbocbagcaaDoorOptC
import Derived.Test.YtaalbjbocbagcaaDoorCopy
import Derived.Test.YtaalbjbocbagcaaDoorCut
namespace Go.Proofs.YtaalbjbocbagcaaDoor
open Go.RowKit
theorem opt_info : (Tryd.prog.info? 36).map (fun i => (i.zero, i.size, i.bytes)) = some (some (.agg #[.int .i64 0, .slice none 0 0]), 2, 32) := by kernel_rfl
theorem optCells_one (ps : List (Value × Pure.Opt)) (h : ∀ p ∈ ps, p.1.oneCell' = true) : ∀ u ∈ optCells ps, u.oneCell' = true := by
  intro u hu
  obtain ⟨p, hp, hu⟩ := List.mem_flatMap.1 hu
  simp at hu
  rcases hu with rfl | rfl
  · rfl
  · exact h p hp
/-- Options that were read: their row, and where their bytes lie. -/
structure Read (w0 w : World) (v : Value) (ps : List (Value × Pure.Opt)) : Prop where
  own : w.ownsRow w0.heap.size 36 2 v ps.length (optCells ps)
  rows : ∀ p ∈ ps, Row w (fun b => w0.heap.size ≤ b ∧ v.ownBlock ≠ some b ∧ b < w.heap.size) 1 p.1 p.2.2.length (u8s p.2.2)
  below : Below w0.heap.size w0 w
set_option maxRecDepth 100000 in
set_option maxHeartbeats 4000000 in
theorem docsplit_any (F : Nat → Prop) (x : Value) (bs : List UInt8) (w : World) (hF : ∀ b, F b → b < w.heap.size) (hr : Row w F 1 x bs.length (u8s bs)) :
    Calls Tryd.prog 20 #[x] w fun e w' => ∃ u ps, e = .returned (.tuple #[u, .int .i64 (((Pure.split bs).1 : Nat) : Int)]) ∧ optsOf ps = (Pure.split bs).2 ∧ ORow w' (fun b => w.heap.size ≤ b) u ps ∧ Below w.heap.size w w' := by
  obtain ⟨A, cA, rfl, hc⟩ := hr.form
  have hml := hr.2.1
  unfold maxLen at hml
  have HR := Lib.hid hr
  have HF := Lib.hid hF
  clear hr hF
  obtain ⟨i0, hi0, hz0, hz1, hz2⟩ := info_parts opt_info
  have HI := Lib.hid (And.intro hi0 (And.intro hz0 (And.intro hz1 hz2)))
  clear hi0 hz0 hz1 hz2
  go_enter Tryd.func20, Tryd.ntmps20
  go_wp2_with fail
  go_loopw [0, 4] (fun b v wr => ∃ (rest : List UInt8) (ps : List (Value × Pure.Opt)), rest.length ≤ bs.length ∧ Row wr F 1 b rest.length (u8s rest) ∧ Pure.split bs = Pure.splitFrom rest (optsOf ps) ∧ ps.length ≤ 32 ∧ Read w wr v ps) (fun b _ _ => match b with | .slice _ n _ => n | _ => 0)
  case atStart => exact ⟨bs, [], Nat.le_refl _, HR.out, rfl, by simp, ⟨World.ownsRow_nil _ _ _ _, by simp, Below.refl _ _⟩⟩
  case round =>
    obtain ⟨rest, ps, hrl, hrow, hsp, hp32, hrd⟩ := hrel
    obtain ⟨X, cX, rfl, hcX⟩ := hrow.form
    obtain ⟨A2, c2, rfl⟩ := own_form hrd.own
    have HRow := Lib.hid hrow
    have HSP := Lib.hid hsp
    have HRD := Lib.hid hrd
    have hlo : (optsOf ps).length = ps.length := by simp
    by_cases hne : 0 < rest.length
    · have hnil : rest ≠ [] := List.length_pos_iff.1 hne
      have g0 : decide ((0 : Int) < (rest.length : Int)) = true := decide_eq_true (by omega)
      by_cases h32 : ps.length = 32
      · have HS := Lib.hid (hsp.trans (Pure.splitFrom_full hnil (by rw [hlo]; exact h32)))
        have g1 : ((ps.length : Int) == 32) = true := by rw [h32]; rfl
        clear hrow hsp hrd hlo
        go_wp2
        go_ret2
        exact ⟨_, [], by rw [HS.out]; rfl, by rw [HS.out]; rfl, ORow.nil _ _, HRD.out.below⟩
      have g1 : ((ps.length : Int) == 32) = false := by rw [beq_eq_false_iff_ne]; omega
      have hbad := fun h => hsp.trans (Pure.splitFrom_bad (acc := optsOf ps) hnil (by rw [hlo]; exact h32) h)
      have hgo := fun h => hsp.trans (Pure.splitFrom_step (acc := optsOf ps) hnil (by rw [hlo]; exact h32) h)
      obtain ⟨bx, ox, rfl, hFb, hcx⟩ := hrow.cellAt hne
      have b0 := hcx 0 _ (u8s_at rest 0 hne)
      rw [Nat.add_zero] at b0
      by_cases h2 : rest.length < 2
      · have HS := Lib.hid (hbad (Or.inl h2))
        have g2 : decide ((rest.length : Int) < 2) = true := decide_eq_true (by omega)
        clear hrow hsp hrd hlo hbad hgo hcx
        go_wp2
        go_ret2
        exact ⟨_, [], by rw [HS.out]; rfl, by rw [HS.out]; rfl, ORow.nil _ _, HRD.out.below⟩
      have g2 : decide ((rest.length : Int) < 2) = false := decide_eq_false (by omega)
      have b1 := hcx 1 _ (u8s_at rest 1 (by omega))
      have r1 : (1 : Int) < (rest.length : Int) := by omega
      have l0 := (rest.getD 0 0).toNat_lt
      have l1 := (rest.getD 1 0).toNat_lt
      obtain ⟨B, hB⟩ : ∃ b, b = (rest.getD 0 0).toNat := ⟨_, rfl⟩
      obtain ⟨n, hn⟩ : ∃ b, b = (rest.getD 1 0).toNat := ⟨_, rfl⟩
      rw [← hB] at b0 l0 hgo
      rw [← hn] at b1 l1 hbad hgo
      by_cases h3 : n < 2
      · have HS := Lib.hid (hbad (Or.inr (Or.inl h3)))
        have g3 : decide ((n : Int) < 2) = true := decide_eq_true (by omega)
        clear hrow hsp hrd hlo hbad hgo hcx hB hn
        go_wp2
        go_ret2
        exact ⟨_, [], by rw [HS.out]; rfl, by rw [HS.out]; rfl, ORow.nil _ _, HRD.out.below⟩
      have g3 : decide ((n : Int) < 2) = false := decide_eq_false (by omega)
      by_cases h4 : rest.length < n
      · have HS := Lib.hid (hbad (Or.inr (Or.inr h4)))
        have g4 : decide ((rest.length : Int) < (n : Int)) = true := decide_eq_true (by omega)
        have g5 : decide (rest.length < n) = true := decide_eq_true h4
        clear hrow hsp hrd hlo hbad hgo hcx hB hn
        go_wp2
        go_ret2
        exact ⟨_, [], by rw [HS.out]; rfl, by rw [HS.out]; rfl, ORow.nil _ _, HRD.out.below⟩
      have g4 : decide ((rest.length : Int) < (n : Int)) = false := decide_eq_false (by omega)
      have g5 : decide (rest.length < n) = false := decide_eq_false h4
      have HS := Lib.hid (hgo (by omega))
      have v0 : IntKind.i64.wrap (B : Int) = (B : Int) := IntWalk.i64_in _ (by omega)
      have r0 : 0 < rest.length := hne
      have q0 : (2 : Int) ≤ (n : Int) := by omega
      have q1 : (n : Int) ≤ (rest.length : Int) := by omega
      have q2 : (n : Int) ≤ (cX : Int) := by omega
      clear hrow hsp hrd hlo hbad hgo hcx hB hn g0 HSP
      go_upto_region 8 with fail
      obtain ⟨D, hD⟩ : ∃ D, D = (rest.drop 2).take (n - 2) := ⟨_, rfl⟩
      have hdl : D.length = n - 2 := by rw [hD, List.length_take, List.length_drop]; omega
      rw [← hD] at HS
      refine wp_region_Z (fun w' => w'.cell? ⟨bx, ox, none⟩ = some (.int .u8 (B : Int))) 12 13 rfl (by kernel_rfl) b0 (fun hHeld => ?_)
      refine wpAnyZ_take (i := 0) rfl (by kernel_rfl) (fun _ _ _ h => h) (Or.inl ⟨by rfl, by intro w hSw; go_simp; try with_reducible rfl⟩) hHeld.out ?_
      simp only [Act.put, List.setIfInBounds_toArray, Nat.reduceAdd, List.getElem_toArray, List.getElem_cons_succ, List.getElem_cons_zero, List.set_cons_succ, List.set_cons_zero]
      refine wpAnyZ_take (i := 1) rfl (by kernel_rfl) (fun _ _ _ h => h) (Or.inl ⟨by rfl, by intro w hSw; go_simp; try with_reducible rfl⟩) hHeld.out ?_
      simp only [Act.put, List.setIfInBounds_toArray, Nat.reduceAdd, List.getElem_toArray, List.getElem_cons_succ, List.getElem_cons_zero, List.set_cons_succ, List.set_cons_zero]
      refine wpAnyZ_take (i := 2) rfl (by kernel_rfl) (fun _ _ _ h => h) (Or.inl ⟨by rfl, by intro w hSw; go_simp; try with_reducible rfl⟩) hHeld.out ?_
      simp only [Act.put, List.setIfInBounds_toArray, Nat.reduceAdd, List.getElem_toArray, List.getElem_cons_succ, List.getElem_cons_zero, List.set_cons_succ, List.set_cons_zero]
      refine wpAnyZ_take (i := 3) rfl (by kernel_rfl) (fun _ _ _ h => h) (Or.inl ⟨by rfl, by intro w hSw; go_simp; try with_reducible rfl⟩) hHeld.out ?_
      simp only [Act.put, List.setIfInBounds_toArray, Nat.reduceAdd, List.getElem_toArray, List.getElem_cons_succ, List.getElem_cons_zero, List.set_cons_succ, List.set_cons_zero]
      refine wpAnyZ_take (i := 4) rfl (by kernel_rfl) (fun _ _ _ h => h) (Or.inl ⟨by rfl, by intro w hSw; go_simp; try with_reducible rfl⟩) hHeld.out ?_
      simp only [Act.put, List.setIfInBounds_toArray, Nat.reduceAdd, List.getElem_toArray, List.getElem_cons_succ, List.getElem_cons_zero, List.set_cons_succ, List.set_cons_zero]
      refine wpAnyZ_take (i := 5) rfl (by kernel_rfl) (fun _ _ _ h => h) (Or.inl ⟨by rfl, by intro w hSw; go_simp; try with_reducible rfl⟩) hHeld.out ?_
      simp only [Act.put, List.setIfInBounds_toArray, Nat.reduceAdd, List.getElem_toArray, List.getElem_cons_succ, List.getElem_cons_zero, List.set_cons_succ, List.set_cons_zero]
      refine wpAnyZ_take (i := 6) rfl (by kernel_rfl) (fun _ _ _ h => h) (Or.inl ⟨by rfl, by intro w hSw; go_simp; try with_reducible rfl⟩) hHeld.out ?_
      simp only [Act.put, List.setIfInBounds_toArray, Nat.reduceAdd, List.getElem_toArray, List.getElem_cons_succ, List.getElem_cons_zero, List.set_cons_succ, List.set_cons_zero]
      refine wpAnyZ_take (i := 7) (v := cutV (some ⟨bx, ox, none⟩) cX 2 (n - 2)) rfl (by kernel_rfl) (fun _ _ _ h => h) (Or.inl ⟨by rfl, by intro w hSw; go_simp; exact cut_value' _ cX 2 (n - 2)⟩) hHeld.out ?_
      simp only [Act.put, List.setIfInBounds_toArray, Nat.reduceAdd, List.getElem_toArray, List.getElem_cons_succ, List.getElem_cons_zero, List.set_cons_succ, List.set_cons_zero]
      refine wpAnyZ_one (i := 8) (by kernel_rfl) rfl (fun K hK => ?_)
      go_simp
      have hsz := HRD.out.below.size
      refine (copy_any F (cutV (some ⟨bx, ox, none⟩) cX 2 (n - 2)) D wr.drew (by
        have h := (HRow.out.cutV 2 (n - 2) (by omega)).keeps (Keeps.refl nobody _).drew (fun _ _ h => h)
        rw [← hD] at h
        rw [hdl]
        exact h) (fun b hb => Nat.lt_of_lt_of_le (HF.out b hb) hsz) (by rw [hdl]; omega)).mono ?_
      rintro e w2 ⟨u, rfl, hu, hb2⟩
      have hk2 : Keeps nobody wr w2 := Keeps.new ⟨hb2.os, hb2.tape, hb2.output, hb2.size, hb2.block⟩
      have hu : w2.ownsRow wr.heap.size 5 1 u D.length (u8s D) := hu
      have c0 := opt_quiet b0 hk2
      refine hK.out _ _ (fun _ => c0) ?_
      clear hK K hHeld
      obtain ⟨A3, c3, rfl⟩ := own_form hu
      have HU := Lib.hid hu
      have HK2 := Lib.hid hk2
      have hn2 : 2 ≤ n := by omega
      have hnr : n ≤ rest.length := by omega
      clear hu hb2 hk2 hD hdl
      refine wpAnyZ_take (i := 9) rfl (by kernel_rfl) (fun _ _ _ h => h) (Or.inl ⟨by rfl, by intro w hSw; go_simp; try with_reducible rfl⟩) c0 ?_
      simp only [Act.put, List.setIfInBounds_toArray, Nat.reduceAdd, List.getElem_toArray, List.getElem_cons_succ, List.getElem_cons_zero, List.set_cons_succ, List.set_cons_zero]
      refine wpAnyZ_one (i := 10) (by kernel_rfl) rfl (fun K hK => ?_)
      go_simp
      refine hK.out _ _ (fun _ => opt_later c0) ?_
      clear hK K
      obtain ⟨wb, hwb⟩ : ∃ wb, wb = w2.alloc (.cells (optCells [(.slice A3 D.length c3, ((B : Int), D))]).toArray 36) := ⟨_, rfl⟩
      have hwb' : w2.alloc (.cells #[.int .i64 (B : Int), .slice A3 D.length c3] 36) = wb := hwb.symm
      rw [hwb']
      have hkb : Keeps nobody w2 wb := by rw [hwb]; exact (Keeps.refl _ w2).alloc _
      have hbb : Blk wb w2.heap.size 36 (optCells [(.slice A3 D.length c3, ((B : Int), D))]).toArray := by rw [hwb]; exact Blk.new w2 _ _
      have hrb : Row wb (fun b => b = w2.heap.size) 2 (.slice (some ⟨w2.heap.size, 0, none⟩) 1 1) 1 (optCells [(.slice A3 D.length c3, ((B : Int), D))]) := by
        have h := Row.block (F := fun b => b = w2.heap.size) (n := 1) (c := 1) (size := 2) hbb rfl rfl (by unfold maxLen; omega) (Nat.le_refl _)
        exact h
      have cb := opt_quiet c0 hkb
      have hkr : Keeps nobody wr wb := HK2.out.trans hkb
      have HKr := Lib.hid hkr
      have hownb : wb.ownsRow w.heap.size 36 2 (.slice A2 ps.length c2) ps.length (optCells ps) := ownsRow_keeps HRD.out.own hkr (fun _ _ h => h)
      have hub : wb.ownsRow wr.heap.size 5 1 (.slice A3 D.length c3) D.length (u8s D) := ownsRow_keeps HU.out hkb (fun _ _ h => h)
      have hBb : Below w.heap.size w wb := Below.quiet HRD.out.below hkr HRD.out.below.size
      have hone : ∀ p ∈ ([(.slice A3 D.length c3, ((B : Int), D))] : List (Value × Pure.Opt)), p.1.oneCell' = true := by
        intro p hp
        simp at hp
        subst hp
        rfl
      clear hwb hwb'
      refine wpAnyZ_one (i := 11) (by kernel_rfl) rfl (fun K hK => ?_)
      rw [if_pos (by rfl)]
      refine wp_append_row (.tmp 34) (.tmp 44) _ rfl w.heap.size 36 i0 _ 2 32 Tryd.underlying29 HI.out.1 HI.out.2.1 HI.out.2.2.1 HI.out.2.2.2 rfl (by omega) (.slice A2 ps.length c2) _ (optCells ps) rfl hownb _ _ 1 (optCells [(.slice A3 D.length c3, ((B : Int), D))]) rfl hrb (optCells_one _ hone) (by unfold maxLen; omega) (by omega) hBb.size ?_
      intro v3 w3 hown3 hg3 hat3
      have hcat : optCells ps ++ optCells [(.slice A3 D.length c3, ((B : Int), D))] = optCells (ps ++ [(.slice A3 D.length c3, ((B : Int), D))]) := by simp [optCells]
      rw [hcat] at hown3
      have hkw : Keeps (fun b => (Value.slice A2 ps.length c2).ownBlock = some b) wb w3 := (Keeps.refl _ wb).grown hg3 (fun k hk _ => hk)
      have hbx : bx < w.heap.size := HF.out bx hFb
      have hc3 : w3.cell? ⟨bx, ox, none⟩ = some (.int .u8 (B : Int)) :=
        (World.cell?_of_block (w := wb) (a := ⟨bx, ox, none⟩) (hkw.block bx (cell_lt cb) (fun e => by have := ownsRow_ge hownb bx e; omega))).trans cb
      have hwbs : wr.heap.size ≤ wb.heap.size := hkr.size
      have hread : Read w w3 v3 (ps ++ [(.slice A3 D.length c3, ((B : Int), D))]) := by
        refine ⟨by rw [List.length_append]; exact hown3, fun p hp => ?_, hBb.grown hg3 hBb.size (fun k hk => ownsRow_ge hownb k hk)⟩
        rcases List.mem_append.1 hp with hp | hp
        · have h1 := ((HRD.out.rows p hp).keeps HKr.out (fun _ _ h => h)).keeps hkw (fun b hb => hb.2.1)
          refine h1.mono (fun b hb => ⟨hb.1, ?_, by have := hkw.size; omega⟩)
          rcases hat3 with e | e
          · rw [e]; exact hb.2.1
          · rw [e]; intro h; injection h with h; omega
        · simp at hp
          subst hp
          have h1 := (Row.of_own hub).keeps hkw (fun b hb hs => by
            have h2 := ownsRow_ge hub b hb
            have h3 := ownsRow_lt HRD.out.own b hs
            omega)
          refine h1.mono (fun b hb => ⟨by have := ownsRow_ge hub b hb; have := HRD.out.below.size; omega, ?_, by have := ownsRow_lt hub b hb; have := hkw.size; omega⟩)
          have h2 := ownsRow_ge hub b hb
          rcases hat3 with e | e
          · rw [e]; intro h; have := ownsRow_lt HRD.out.own b h; omega
          · rw [e]; intro h; injection h with h; have := ownsRow_lt hub b hb; omega
      have hkF : Row w3 F 1 (.slice (some ⟨bx, ox, none⟩) rest.length cX) rest.length (u8s rest) :=
        (HRow.out.keeps HKr.out (fun _ _ h => h)).keeps hkw (fun b hb hs => by have h1 := HF.out b hb; have h2 := ownsRow_ge hownb b hs; omega)
      have HRead := Lib.hid hread
      have HRow3 := Lib.hid hkF
      have HC3 := Lib.hid hc3
      have hsp3 : Pure.split bs = Pure.splitFrom (rest.drop n) (optsOf (ps ++ [(.slice A3 D.length c3, ((B : Int), D))])) := by
        rw [HS.out]; simp [optsOf]
      have HSP3 := Lib.hid hsp3
      obtain ⟨A4, c4, rfl⟩ := own_form hown3
      clear hown3 hg3 hat3 hcat hkw hread hkF hc3 hsp3 hrb hbb hub hownb hBb hone hkb hkr cb c0 b0 b1 hwbs
      refine hK.out _ _ (fun _ => HC3.out) ?_
      clear hK K
      try simp only [Nat.reduceAdd]
      refine wpAnyZ_one (i := 12) (by kernel_rfl) rfl (fun K hK => ?_)
      rw [if_pos (by rfl)]
      go_simp
      refine hK.out _ _ (fun h => absurd rfl h) ?_
      clear hK K
      refine wpAnyZ_done (by kernel_rfl) ?_ _
      have hlen2 : (rest.drop n).length = rest.length - n := List.length_drop
      by_cases hcap : cX = n
      · have hln : rest.length = n := by omega
        have hd0 : rest.drop n = [] := List.drop_eq_nil_of_le (by omega)
        have HR4 := Lib.hid (show Row w3 F 1 (.slice (some ⟨bx, ox, none⟩) 0 0) 0 (u8s []) from ⟨rfl, by unfold maxLen; omega, _, 0, rfl, Nat.le_refl _, by simp, fun h => absurd h (by omega)⟩)
        rw [hd0] at HSP3
        have HSPn := Lib.hid HSP3.out
        subst hcap
        clear hd0 hlen2 HSP3 hu
        go_wp2_with fail
        go_roundw
        case rel => exact ⟨[], _, by simp, by simpa [hln] using HR4.out, HSPn.out, by rw [List.length_append]; simp only [List.length_cons, List.length_nil]; omega, HRead.out⟩
        case measure => simp; omega
      · have HR4 := Lib.hid (show Row w3 F 1 (.slice (some ⟨bx, ox + n, none⟩) (rest.length - n) (cX - n)) (rest.drop n).length (u8s (rest.drop n)) by
          have h := HRow3.out.cut1 n (rest.length - n) (by omega)
          rw [← List.map_drop, ← List.map_take, List.take_of_length_le (by omega)] at h
          simp only [Option.map_some, addr_add] at h
          rw [hlen2]
          exact h)
        clear hu
        go_wp2_with fail
        go_roundw
        case rel => exact ⟨rest.drop n, _, by omega, by simpa [hlen2] using HR4.out, HSP3.out, by rw [List.length_append]; simp only [List.length_cons, List.length_nil]; omega, HRead.out⟩
        case measure => simp; omega
    · have hz : rest = [] := List.eq_nil_of_length_eq_zero (by omega)
      subst hz
      have HS := Lib.hid (show Pure.split bs = (0, optsOf ps) from hsp.trans (Pure.splitFrom_nil _))
      clear hrow hsp hrd hlo hne
      go_wp2
      go_ret2
      exact ⟨_, ps, by rw [HS.out]; rfl, by rw [HS.out], ⟨(Row.of_own HRD.out.own).mono (fun b hb => ownsRow_ge HRD.out.own b hb), fun p hp => (HRD.out.rows p hp).mono (fun b hb => hb.1)⟩, HRD.out.below⟩
end Go.Proofs.YtaalbjbocbagcaaDoor
