/- Package lcp: size, isFrom, isStrength, next, option. -/
import Derived.Test.YtmgicbckgpdkcaaGreatDoorQ15
import Derived.Test.YtmgicbckgpdkcaaGreatDoorQ20
import Derived.Test.YtmgicbckgpdkcaaGreatDoorQ27
import Derived.BigQuiet
import Derived.Test.YtmgicbckgpdkcaaGreatDoorQ24
import Derived.Test.YtmgicbckgpdkcaaGreatDoorQ17
import Derived.Laws.EntriesVeiled
import Derived.Test.YtmgicbckgpdkcaaGreatDoorQ26
import Derived.Test.YtmgicbckgpdkcaaGreatDoorQ14
import Derived.Test.YtmgicbckgpdkcaaGreatDoorQ25
namespace Go.Proofs.YtmgicbckgpdkcaaGreatDoor
set_option maxRecDepth 100000
set_option maxHeartbeats 4000000
open _root_.Go.Lib renaming hid → xhd
open List renaming setIfInBounds_toArray → xqA, getElem_toArray → xqB, getElem_cons_succ → xqC, getElem_cons_zero → xqD, set_cons_succ → xqE, set_cons_zero → xqF
open Go.RowKit
namespace Pure
def psize (k : Int) : Nat := if k = 1 then 2 else if k = 17 then 2 else if k = 3 then 3 else if k = 2 then 4 else if k = 5 then 4 else 0
theorem psize_le (k : Int) : psize k ≤ 4 := by
 unfold psize
 split
 ·omega
 split
 ·omega
 split
 ·omega
 split
 ·omega
 split <;> omega
end Pure
theorem lsize_any (k : Int) (w : World) : Calls Tryz.prog 58 #[.int .i64 k] w fun e w' => e = .returned (.int .i64 (Pure.psize k : Int)) ∧ w = w' := by
 by_cases h1 : k = 1
 ·subst h1
  go_enter Tryz.func58, Tryz.ntmps58
  go_wp2_with fail
  go_ret
  exact ⟨rfl, rfl⟩
 by_cases h2 : k = 17
 ·subst h2
  go_enter Tryz.func58, Tryz.ntmps58
  go_wp2_with fail
  go_ret
  exact ⟨rfl, rfl⟩
 by_cases h3 : k = 3
 ·subst h3
  go_enter Tryz.func58, Tryz.ntmps58
  go_wp2_with fail
  go_ret
  exact ⟨rfl, rfl⟩
 by_cases h4 : k = 2
 ·subst h4
  go_enter Tryz.func58, Tryz.ntmps58
  go_wp2_with fail
  go_ret
  exact ⟨rfl, rfl⟩
 by_cases h5 : k = 5
 ·subst h5
  go_enter Tryz.func58, Tryz.ntmps58
  go_wp2_with fail
  go_ret
  exact ⟨rfl, rfl⟩
 have b1 : (k == 1) = false := by rw [beq_eq_false_iff_ne]; exact h1
 have b2 : (k == 17) = false := by rw [beq_eq_false_iff_ne]; exact h2
 have b3 : (k == 3) = false := by rw [beq_eq_false_iff_ne]; exact h3
 have b4 : (k == 2) = false := by rw [beq_eq_false_iff_ne]; exact h4
 have b5 : (k == 5) = false := by rw [beq_eq_false_iff_ne]; exact h5
 have HE := xhd (show Pure.psize k = 0 by unfold Pure.psize; rw [if_neg h1, if_neg h2, if_neg h3, if_neg h4, if_neg h5])
 clear h1 h2 h3 h4 h5
 go_enter Tryz.func58, Tryz.ntmps58
 go_wp2_with fail
 go_ret
 exact ⟨by rw [HE.out]; rfl, rfl⟩
theorem isFrom_any (n lo hi : Int) (w : World) : Calls Tryz.prog 109 #[.int .i64 n, .int .i64 lo, .int .i64 hi] w fun e w' => e = .returned (.bool (decide (lo ≤ n) && decide (n ≤ hi))) ∧ w = w' := by
 obtain ⟨b1, h1⟩ : ∃ b, decide (lo ≤ n) = b := ⟨_, rfl⟩
 obtain ⟨b2, h2⟩ : ∃ b, decide (n ≤ hi) = b := ⟨_, rfl⟩
 rw [h1, h2]
 cases b1 <;> cases b2
 all_goals
  go_enter Tryz.func109, Tryz.ntmps109
  go_wp2_with fail
  go_ret
  exact ⟨rfl, rfl⟩
theorem isStrength_any (n : Int) (w : World) : Calls Tryz.prog 110 #[.int .i64 n] w fun e w' => e = .returned (.bool (decide (n = 40) || decide (n = 56) || decide (n = 128))) ∧ w = w' := by
 by_cases h1 : n = 40
 ·subst h1
  go_enter Tryz.func110, Tryz.ntmps110
  go_wp2_with fail
  go_ret
  exact ⟨rfl, rfl⟩
 by_cases h2 : n = 56
 ·subst h2
  go_enter Tryz.func110, Tryz.ntmps110
  go_wp2_with fail
  go_ret
  exact ⟨rfl, rfl⟩
 by_cases h3 : n = 128
 ·subst h3
  go_enter Tryz.func110, Tryz.ntmps110
  go_wp2_with fail
  go_ret
  exact ⟨rfl, rfl⟩
 have b1 : (n == 40) = false := by rw [beq_eq_false_iff_ne]; exact h1
 have b2 : (n == 56) = false := by rw [beq_eq_false_iff_ne]; exact h2
 have b3 : (n == 128) = false := by rw [beq_eq_false_iff_ne]; exact h3
 have HE := xhd (show (decide (n = 40) || decide (n = 56) || decide (n = 128)) = false by simp [h1, h2, h3])
 clear h1 h2 h3
 go_enter Tryz.func110, Tryz.ntmps110
 go_wp2_with fail
 go_ret
 exact ⟨by rw [HE.out]; rfl, rfl⟩
theorem loption_any (k : Int) (x : Nat) (hx : x < 4294967296) (w : World) :
  Calls Tryz.prog 52 #[.int .i64 k, .int .i64 (x : Int)] w fun e w' => ∃ A c, e = .returned (.agg #[.int .i64 k, .slice A (Pure.psize k) c]) ∧ Row w' (fun b => w.heap.size ≤ b) 1 (.slice A (Pure.psize k) c) (Pure.psize k) (u8s (Pure.wide x (Pure.psize k))) ∧ Keeps nobody w w' := by
 obtain ⟨n, hn⟩ : ∃ n, n = Pure.psize k := ⟨_, rfl⟩
 have HSZ := xhd (fun W => hn ▸ lsize_any k W)
 have HEN := xhd (fun W => encoded_any x n W (by rw [hn]; exact Pure.psize_le k) hx)
 rw [← hn]
 have HI := xhd option_info2
 clear hn hx
 obtain ⟨g, hg⟩ : ∃ g, g = w.heap.size := ⟨_, rfl⟩
 go_enter Tryz.func52, Tryz.ntmps52
 go_upto_region 1 with fail
 generalize hw1 : w.alloc _ = w1
 rw [← hg]
 have HK := xhd (show Keeps nobody w w1 by rw [← hw1]; exact (Keeps.refl nobody w).alloc _)
 have HB := xhd (show Blk w1 g 31 #[.int .i64 0, .slice none 0 0] by rw [← hw1, hg]; exact Blk.new w _ _)
 have HG := xhd hg
 have hs := HSZ.out w1
 clear hw1 hg
 go_wp2_with fail
 refine hs.mono ?_
 rintro e w2 ⟨rfl, rfl⟩
 have he := HEN.out w1
 clear hs
 go_wp2_with fail
 refine he.mono ?_
 rintro e w2 ⟨A, c, rfl, hr, hk2⟩
 have hB := HB.out.keeps hk2 (fun h => h)
 have o0 : w2.cell? ⟨g, 0, none⟩ = some (.int .i64 0) := by rw [hB.cell]; rfl
 have o1 : w2.cell? ⟨g, 1, none⟩ = some (.slice none 0 0) := by rw [hB.cell]; rfl
 have f0 := hB.frozen 0
 have f1 := hB.frozen 1
 have HZ := xhd ((hB.set 0 (.int .i64 k)).set 1 (.slice A n c))
 have KS := ((Keeps.refl (only g) w2).put 0 (.int .i64 k)).put 1 (.slice A n c)
 have HR := xhd (hr.keeps KS (fun b hb e => by have e : b = g := e; have := HB.out.lt; omega))
 have HRB := xhd (show ∀ b, w1.heap.size ≤ b → w.heap.size ≤ b from fun b hb => Nat.le_trans HK.out.size hb)
 have HKS := xhd (show Keeps nobody w _ from (HK.out.trans hk2).trans' KS (fun i hi hl => by have e : i = g := hi; have := HG.out; omega))
 clear hB KS hr hk2 he
 go_wp2_with fail
 refine bodyPost_ret (results_row1 rfl _ _ g 31 _ (0, 0) _ rfl HZ.out Tryz.underlying31 rfl (by rw [HI.out]; rfl)) rfl ?_
 exact ⟨A, c, rfl, HR.out.mono HRB.out, HKS.out⟩
namespace Pure
end Pure
theorem Below.turned {w0 w w' : World} {S : Nat → Prop} (b : Below w0.heap.size w0 w) (k : Keeps S w w') (h : ∀ i, S i → w0.heap.size ≤ i) : Below w0.heap.size w0 w' :=
 ⟨k.os.trans b.os, k.tape.trans b.tape, k.output.trans b.output, Nat.le_trans b.size k.size, fun i hi => (k.block i (Nat.lt_of_lt_of_le hi b.size) (fun e => by have := h i e; omega)).trans (b.block i hi)⟩
structure ARow (w0 w : World) (lb : Nat) (P : Nat → Prop) (v : Value) (qs : List (Value × Pure.Opt)) : Prop where
 own : w.ownsRow w0.heap.size 31 2 v qs.length (optCells qs)
 far : ∀ b, v.ownBlock = some b → b ≠ lb ∧ ¬ P b
 rows : ∀ p ∈ qs, Row w (fun b => w0.heap.size ≤ b ∧ v.ownBlock ≠ some b ∧ b ≠ lb ∧ b < w.heap.size) 1 p.1 p.2.2.length (u8s p.2.2)
 lbn : w0.heap.size ≤ lb
 lbl : lb < w.heap.size
 pl : ∀ b, P b → b < w.heap.size
 below : Below w0.heap.size w0 w
theorem ARow.turned {w0 w w' : World} {lb : Nat} {P S : Nat → Prop} {v : Value} {qs : List (Value × Pure.Opt)} (h : ARow w0 w lb P v qs) (k : Keeps S w w') (hS : ∀ b, S b → b = lb) : ARow w0 w' lb P v qs :=
 ⟨ownsRow_keeps h.own k (fun b hb e => (h.far b hb).1 (hS b e)), h.far, fun p hp => ((h.rows p hp).keeps k (fun b hb e => hb.2.2.1 (hS b e))).mono (fun b hb => ⟨hb.1, hb.2.1, hb.2.2.1, Nat.lt_of_lt_of_le hb.2.2.2 k.size⟩), h.lbn, Nat.lt_of_lt_of_le h.lbl k.size, fun b hb => Nat.lt_of_lt_of_le (h.pl b hb) k.size, Below.turned h.below k (fun i hi => by rw [hS i hi]; exact h.lbn)⟩
theorem ARow.quiet {w0 w w' : World} {lb : Nat} {P : Nat → Prop} {v : Value} {qs : List (Value × Pure.Opt)} (h : ARow w0 w lb P v qs) (k : Keeps nobody w w') : ARow w0 w' lb P v qs := h.turned k (fun _ e => e.elim)
theorem ARow.read {w0 w : World} {lb : Nat} {P : Nat → Prop} {v : Value} {qs : List (Value × Pure.Opt)} (h : ARow w0 w lb P v qs) : Read w0 w v qs :=
 ⟨h.own, fun p hp => (h.rows p hp).mono (fun _ hb => ⟨hb.1, hb.2.1, hb.2.2.2⟩), h.below⟩
theorem wpo_append_opt1 {w0 w : World} {o : Oper} {a : Act} {Q : Exit → Act → World → Prop} {K : Act → World → Prop} (s x : Operand) (ho : o.op = .call { callee := .builtin .append, args := #[s, x], argTypes := #[27, 27] })
  {lb : Nat} {P : Nat → Prop} (v : Value) (qs : List (Value × Pure.Opt)) (A3 : Option Addr) (c3 : Nat) (t : Int) (l : List UInt8) (hs : a.eval s = v) (hx : a.eval x = .slice (some ⟨w.heap.size, 0, none⟩) 1 1) (hR : ARow w0 w lb P v qs) (hq : qs.length ≤ 1000)
  (hd : Row w (fun b => w0.heap.size ≤ b ∧ v.ownBlock ≠ some b ∧ b ≠ lb ∧ b < w.heap.size) 1 (.slice A3 l.length c3) l.length (u8s l))
  (h : ∀ A c w', ARow w0 w' lb P (.slice A (qs.length + 1) c) (qs ++ [(.slice A3 l.length c3, (t, l))]) → Keeps (fun b => v.ownBlock = some b) w w' → K (a.put o.dst (.slice A (qs.length + 1) c)) w') :
  o.wp Tryz.prog a (w.alloc (.cells #[.int .i64 t, .slice A3 l.length c3] 31)) K Q := by
 obtain ⟨i0, hi0, hz0, hz1, hz2⟩ := info_parts opt_info
 obtain ⟨wb, hwb⟩ : ∃ wb, wb = w.alloc (.cells #[.int .i64 t, .slice A3 l.length c3] 31) := ⟨_, rfl⟩
 rw [← hwb]
 have hkb : Keeps nobody w wb := by rw [hwb]; exact (Keeps.refl _ w).alloc _
 have hbb : Blk wb w.heap.size 31 #[.int .i64 t, .slice A3 l.length c3] := by rw [hwb]; exact Blk.new w _ _
 have hsb : wb.heap.size = w.heap.size + 1 := by rw [hwb]; simp
 have hrb : Row wb (fun b => b = w.heap.size) 2 (.slice (some ⟨w.heap.size, 0, none⟩) 1 1) 1 (optCells [(.slice A3 l.length c3, (t, l))]) :=
  Row.block (F := fun b => b = w.heap.size) (n := 1) (c := 1) (size := 2) hbb rfl rfl (by unfold maxLen; omega) (Nat.le_refl _)
 have hb := hR.quiet hkb
 refine wp_append_row s x _ ho w0.heap.size 31 i0 _ 2 32 Tryz.underlying27 hi0 hz0 hz1 hz2 rfl (by omega) v _ (optCells qs) hs hb.own _ _ 1 _ hx hrb (optCells_one _ (by intro p hp; rw [List.mem_singleton.1 hp]; rfl)) (by unfold maxLen; omega) (by omega) hb.below.size ?_
 intro v3 w3 hown3 hg3 hat3
 have hcat : optCells qs ++ optCells [(.slice A3 l.length c3, (t, l))] = optCells (qs ++ [(.slice A3 l.length c3, (t, l))]) := by simp [optCells]
 rw [hcat] at hown3
 have hkw : Keeps (fun b => v.ownBlock = some b) wb w3 := (Keeps.refl _ wb).grown hg3 (fun k hk _ => hk)
 have hk : Keeps (fun b => v.ownBlock = some b) w w3 := (hkb.mono (fun _ h => h.elim)).trans hkw
 have hnew : ∀ b, v3.ownBlock = some b → v.ownBlock = some b ∨ b = wb.heap.size := fun b hb => by
  rcases hat3 with e | e
  ·exact .inl (e ▸ hb)
  ·rw [e] at hb; injection hb with hb; exact .inr hb.symm
 have hread : ARow w0 w3 lb P v3 (qs ++ [(.slice A3 l.length c3, (t, l))]) := by
  refine ⟨by rw [List.length_append]; exact hown3, fun b hb => ?_, fun p hp => ?_, hR.lbn, Nat.lt_of_lt_of_le hR.lbl hk.size, fun b hb => Nat.lt_of_lt_of_le (hR.pl b hb) hk.size, Below.turned hR.below hk (fun i hi => ownsRow_ge hR.own i hi)⟩
  ·rcases hnew b hb with h1 | h1
   ·exact hR.far b h1
   ·exact ⟨fun e => by have := hR.lbl; omega, fun e => by have := hR.pl b e; omega⟩
  ·have hrow : Row w (fun b => w0.heap.size ≤ b ∧ v.ownBlock ≠ some b ∧ b ≠ lb ∧ b < w.heap.size) 1 p.1 p.2.2.length (u8s p.2.2) := by
    rcases List.mem_append.1 hp with hp | hp
    ·exact hR.rows p hp
    ·rw [List.mem_singleton.1 hp]; exact hd
   refine (hrow.keeps hk (fun b hb => hb.2.1)).mono (fun b hb => ⟨hb.1, fun e => ?_, hb.2.2.1, Nat.lt_of_lt_of_le hb.2.2.2 hk.size⟩)
   rcases hnew b e with h1 | h1
   ·exact hb.2.1 h1
   ·have := hb.2.2.2; omega
 obtain ⟨A4, c4, rfl⟩ := own_form hown3
 exact h A4 c4 w3 hread hk
structure AVar (w0 w : World) (lb : Nat) (P : Nat → Prop) (v : Value) (qs : List (Value × Pure.Opt)) : Prop where
 row : ARow w0 w lb P v qs
 blk : Blk w lb 27 #[v]
theorem ask1_any (b : Bool) (k : Int) (x : Nat) (hx : x < 4294967296) (w0 : World) (lb : Nat) (P : Nat → Prop) (v : Value) (qs : List (Value × Pure.Opt)) (w : World) (h : AVar w0 w lb P v qs) (hq : qs.length ≤ 100) (hP : ¬ P lb) :
  Calls Tryz.prog 51 #[.bool b, .int .i64 k, .int .i64 (x : Int), .pointer (some ⟨lb, 0, none⟩)] w fun e w' => e = .returned (.tuple #[]) ∧ ∃ v' qs', AVar w0 w' lb P v' qs' ∧ optsOf qs' = optsOf qs ++ (if b then [(k, Pure.wide x (Pure.psize k))] else []) ∧ qs'.length ≤ qs.length + 1 ∧ Keeps (fun i => w0.heap.size ≤ i ∧ ¬ P i) w w' := by
 cases b
 ·have HH := xhd h
  clear h
  go_enter Tryz.func51, Tryz.ntmps51
  go_wp2_with fail
  go_end0
  exact ⟨rfl, v, qs, HH.out, by simp, by omega, Keeps.refl _ _⟩
 ·obtain ⟨AV, cv, rfl⟩ := own_form h.row.own
  have HH := xhd h.row
  have HB := xhd h.blk
  have c0 : w.drew.cell? ⟨lb, 0, none⟩ = some (.slice AV qs.length cv) := by
   have := (h.blk.keeps ((Keeps.refl nobody w).drew) (fun e => e))
   rw [this.cell]; rfl
  have hkz := Keeps.refl nobody w
  have HPL := xhd hP
  clear h hP
  go_enter Tryz.func51, Tryz.ntmps51
  go_upto_region 1 with fail
  refine wp_region_Z (fun w' => w'.cell? ⟨lb, 0, none⟩ = some (.slice AV qs.length cv)) 6 7 rfl (by kernel_rfl) c0 (fun hHeld => ?_)
  have HSW := hHeld
  clear hHeld c0
  have HK0d := xhd (hkz.drew)
  clear hkz
  refine wpAnyZ_take (i := 0) rfl (by kernel_rfl) (fun _ _ _ h => h) (Or.inl ⟨by rfl, by intro w hSw; go_simp; try with_reducible rfl⟩) HSW.out ?_
  simp only [Act.put, xqA, xqB, xqD, xqE, xqF]
  refine wpAnyZ_take (i := 1) rfl (by kernel_rfl) (fun _ _ _ h => h) (Or.inl ⟨by rfl, by intro w hSw; go_simp; try with_reducible rfl⟩) HSW.out ?_
  simp only [Act.put, xqA, xqB, xqC, xqD, xqE, xqF]
  refine wpAnyZ_take (i := 2) rfl (by kernel_rfl) (fun _ _ _ h => h) (Or.inl ⟨by rfl, by intro w hSw; go_simp; try with_reducible rfl⟩) HSW.out ?_
  simp only [Act.put, xqA, xqB, xqC, xqD, xqE, xqF]
  refine wpAnyZ_one (i := 3) (by kernel_rfl) rfl (fun K hK => ?_)
  try rw [if_pos (by rfl)]
  go_simp
  refine (loption_any k x hx _).mono ?_
  rintro e w2 ⟨A, c, rfl, hr, hk2⟩
  have hk02 := HK0d.out.trans hk2
  have hl : (Pure.wide x (Pure.psize k)).length = Pure.psize k := Pure.wide_length _ _
  obtain ⟨L, hL⟩ : ∃ L, L = Pure.wide x (Pure.psize k) := ⟨_, rfl⟩
  rw [← hL] at hr hl
  rw [← hl] at hr ⊢
  have HL := xhd hL
  have HR2 := xhd (HH.out.quiet hk02)
  have HS2 := xhd (cell_quiet HSW.out hk2)
  have HB2 := xhd (HB.out.keeps hk02 (fun e => e))
  have HD2 := xhd ((hr.strongN (by omega)).mono (G := fun b => w0.heap.size ≤ b ∧ (Value.slice AV qs.length cv).ownBlock ≠ some b ∧ b ≠ lb ∧ b < w2.heap.size) (fun b hb => by
   have h1 := hb.1
   have h2 : w.drew.heap.size = w.heap.size := rfl
   have h3 := HH.out.lbl
   have h4 := HH.out.lbn
   exact ⟨by omega, fun e => by have := ownsRow_lt HH.out.own b e; omega, by omega, hb.2⟩))
  have HK2 := xhd hk02
  clear hk2 hr hk02 hl hL
  refine hK.out _ _ (fun _ => HS2.out) ?_
  clear hK K
  try simp only [Act.put, xqA, Nat.reduceAdd, xqB, xqC, xqD, xqE, xqF]
  refine wpAnyZ_one (i := 4) (by kernel_rfl) rfl (fun K hK => ?_)
  try rw [if_pos (by rfl)]
  go_simp
  have HS3 := xhd (cell_quiet HS2.out ((Keeps.refl nobody w2).alloc (.cells #[.int .i64 k, .slice A L.length c] 31)))
  refine hK.out _ _ (fun _ => HS3.out) ?_
  clear hK K
  try simp only [Act.put, xqA, Nat.reduceAdd, xqB, xqC, xqD, xqE, xqF]
  refine wpAnyZ_one (i := 5) (by kernel_rfl) rfl (fun K hK => ?_)
  rw [if_pos (by rfl)]
  refine wpo_append_opt1 (.tmp 8) (.tmp 12) rfl (.slice AV qs.length cv) qs A c k L rfl rfl HR2.out (by omega) HD2.out ?_
  intro A4 c4 w4 hr4 hk4
  have hb4 := HB2.out.keeps hk4 (fun e => (HR2.out.far lb e).1 rfl)
  have HS4 := xhd (show w4.cell? ⟨lb, 0, none⟩ = some (.slice AV qs.length cv) by rw [hb4.cell]; rfl)
  have HR4 := xhd hr4
  have HB4 := xhd hb4
  have f4 := hb4.frozen 0
  have HK4 := xhd hk4
  clear hr4 hk4 hb4
  refine hK.out _ _ (fun _ => HS4.out) ?_
  clear hK K
  try simp only [Act.put, xqA, xqB, xqC, xqD, xqE, xqF]
  have x4 := HS4.out
  refine wpAnyZ_one (i := 6) (by kernel_rfl) rfl (fun K hK => ?_)
  go_simp
  have KS := (Keeps.refl (only lb) w4).put 0 (.slice A4 (qs.length + 1) c4)
  have HB5 := xhd (HB4.out.set 0 (.slice A4 (qs.length + 1) c4))
  have HR5 := xhd (HR4.out.turned KS (fun b e => e))
  have HK5 := xhd (show Keeps (fun i => w0.heap.size ≤ i ∧ ¬ P i) w _ from ((HK2.out.mono (fun _ e => e.elim)).trans (HK4.out.mono (fun b e => ⟨ownsRow_ge HH.out.own b e, (HH.out.far b e).2⟩))).trans (KS.mono (fun b e => by have e : b = lb := e; rw [e]; exact ⟨HH.out.lbn, HPL.out⟩)))
  clear KS
  refine hK.out _ _ (fun h => absurd rfl h) ?_
  clear hK K
  refine wpAnyZ_done (by kernel_rfl) ?_ _
  go_wp2_with fail
  go_end0
  exact ⟨rfl, _, _, ⟨HR5.out, HB5.out⟩, by simp [optsOf, HL.out], by simp, HK5.out⟩
structure RVar (w0 w : World) (lb : Nat) (P : Nat → Prop) (v : Value) (us : List (Value × Pure.Rule)) : Prop where
 row : RRead w0 w P v us
 far : ∀ b, v.ownBlock = some b → b ≠ lb ∧ ¬ P b
 lbn : w0.heap.size ≤ lb
 pl : ∀ b, P b → b < w.heap.size ∧ b ≠ lb
 blk : Blk w lb 118 #[v]
theorem RVar.quiet {w0 w w' : World} {lb : Nat} {P : Nat → Prop} {v : Value} {us : List (Value × Pure.Rule)} (h : RVar w0 w lb P v us) (k : Keeps nobody w w') : RVar w0 w' lb P v us :=
 ⟨h.row.keeps k, h.far, h.lbn, fun b hb => ⟨Nat.lt_of_lt_of_le (h.pl b hb).1 k.size, (h.pl b hb).2⟩, h.blk.keeps k (fun e => e)⟩
theorem RRead.other {w0 w w' : World} {F S : Nat → Prop} {v : Value} {us : List (Value × Pure.Rule)} (h : RRead w0 w F v us) (k : Keeps S w w') (h1 : ∀ b, S b → v.ownBlock ≠ some b ∧ ¬ F b ∧ w0.heap.size ≤ b) : RRead w0 w' F v us :=
 ⟨ownsRow_keeps h.own k (fun b hb e => (h1 b e).1 hb), fun p hp => ((h.rows p hp).keeps k (fun b hb e => (h1 b e).2.1 hb.1)).mono (fun _ hb => ⟨hb.1, hb.2.1, Nat.lt_of_lt_of_le hb.2.2 k.size⟩), h.kept.trans' k (fun i hi hl => by have := (h1 i hi).2.2; omega)⟩
theorem allow1_any (b : Bool) (k : Int) (r : Pure.Rule) (D : Value) (w0 : World) (lb : Nat) (P : Nat → Prop) (v : Value) (us : List (Value × Pure.Rule)) (w : World) (h : RVar w0 w lb P v us) (hq : us.length ≤ 100) (hone : D.oneCell' = true) (hD : Row w (fun b => P b) 1 D r.want.length (u8s r.want)) :
  Calls Tryz.prog 113 #[.bool b, .int .i64 k, ruleV (D, r), .pointer (some ⟨lb, 0, none⟩)] w fun e w' => e = .returned (.tuple #[]) ∧ ∃ v' us', RVar w0 w' lb P v' us' ∧ rulesOf us' = rulesOf us ++ (if b then [{ r with type := k, len := (Pure.psize k : Int) }] else []) ∧ us'.length ≤ us.length + 1 ∧ Keeps (fun i => w0.heap.size ≤ i ∧ ¬ P i) w w' := by
 cases b
 ·have HH := xhd (h.quiet ((Keeps.refl nobody w).alloc (.cells #[.int .i64 r.type, .int .i64 r.len, .int .i64 r.how, .int .i64 r.lo, .int .i64 r.hi, D, .bool r.need] 122)))
  have HK := xhd ((Keeps.refl (fun i => w0.heap.size ≤ i ∧ ¬ P i) w).alloc (.cells #[.int .i64 r.type, .int .i64 r.len, .int .i64 r.how, .int .i64 r.lo, .int .i64 r.hi, D, .bool r.need] 122))
  clear h hD
  go_enter Tryz.func113, Tryz.ntmps113
  go_wp2_with fail
  go_end0
  exact ⟨rfl, v, us, HH.out, by simp, by omega, HK.out⟩
 ·obtain ⟨AV, cv, rfl⟩ := own_form h.row.own
  obtain ⟨rb, hrb⟩ : ∃ q, q = w.heap.size := ⟨_, rfl⟩
  obtain ⟨w1, hw1⟩ : ∃ q, q = w.alloc (.cells (ruleCells (D, r)).toArray 122) := ⟨_, rfl⟩
  have hk1 : Keeps nobody w w1 := by rw [hw1]; exact (Keeps.refl _ w).alloc _
  have hb1 : Blk w1 rb 122 (ruleCells (D, r)).toArray := by rw [hw1, hrb]; exact Blk.new w _ _
  have hlbl : lb < w.heap.size := h.blk.lt
  have HSZ := xhd (lsize_any k)
  have h1 := h.quiet hk1
  have z0 : w1.cell? ⟨rb, 0, none⟩ = some (.int .i64 r.type) := by rw [hb1.cell]; rfl
  have z1 : w1.cell? ⟨rb, 1, none⟩ = some (.int .i64 r.len) := by rw [hb1.cell]; rfl
  have fz0 := hb1.frozen 0
  have fz1 := hb1.frozen 1
  obtain ⟨n, hn⟩ : ∃ n, n = Pure.psize k := ⟨_, rfl⟩
  obtain ⟨w2, hw2⟩ : ∃ q, q = (w1.setCell ⟨rb, 0, none⟩ (.int .i64 k)).setCell ⟨rb, 1, none⟩ (.int .i64 (n : Int)) := ⟨_, rfl⟩
  have KS : Keeps (only rb) w1 w2 := by rw [hw2]; exact ((Keeps.refl (only rb) w1).put 0 _).put 1 _
  have hb2 : Blk w2 rb 122 (ruleCells (D, { r with type := k, len := (n : Int) })).toArray := by rw [hw2]; exact (hb1.set 0 (.int .i64 k)).set 1 (.int .i64 (n : Int))
  have hk2 : Keeps nobody w w2 := hk1.trans' KS (fun i hi hl => by have e : i = rb := hi; omega)
  have h2 := h.quiet hk2
  have c0 : w2.cell? ⟨lb, 0, none⟩ = some (.slice AV us.length cv) := by rw [h2.blk.cell]; rfl
  have r0 : w2.cell? ⟨rb, 0, none⟩ = some (.int .i64 k) := by rw [hb2.cell]; rfl
  have r1 : w2.cell? ⟨rb, 1, none⟩ = some (.int .i64 (n : Int)) := by rw [hb2.cell]; rfl
  have r2 : w2.cell? ⟨rb, 2, none⟩ = some (.int .i64 r.how) := by rw [hb2.cell]; rfl
  have r3 : w2.cell? ⟨rb, 3, none⟩ = some (.int .i64 r.lo) := by rw [hb2.cell]; rfl
  have r4 : w2.cell? ⟨rb, 4, none⟩ = some (.int .i64 r.hi) := by rw [hb2.cell]; rfl
  have r5 : w2.cell? ⟨rb, 5, none⟩ = some D := by rw [hb2.cell]; rfl
  have r6 : w2.cell? ⟨rb, 6, none⟩ = some (.bool r.need) := by rw [hb2.cell]; rfl
  have HH2 := xhd h2
  have HK2 := xhd hk2
  have HD2 := xhd ((hD.keeps hk2 (fun _ _ e => e)).mono (G := fun b => P b ∧ (Value.slice AV us.length cv).ownBlock ≠ some b ∧ b < w2.heap.size) (fun b hb => ⟨hb, fun e => (h.far b e).2 hb, (h2.pl b hb).1⟩))
  have HN := xhd hn
  have hls := HSZ.out w1
  rw [← hn] at hls ⊢
  clear h hk1 hb1 h1 hlbl hD KS hb2 hk2 h2 hn
  go_enter Tryz.func113, Tryz.ntmps113
  go_upto_region 1 with fail
  rw [← hrb]
  rw [show w.alloc (.cells #[.int .i64 r.type, .int .i64 r.len, .int .i64 r.how, .int .i64 r.lo, .int .i64 r.hi, D, .bool r.need] 122) = w1 from hw1.symm]
  clear hrb hw1
  go_wp2_with fail
  refine hls.mono ?_
  rintro e wz ⟨rfl, rfl⟩
  go_upto_region 3 with fail
  rw [← hw2]
  clear hw2 z0 z1 fz0 fz1 hls
  go_wp2_with (at_builtin; refine stopHere ?_)
  unfold Hid
  refine wp_append_rule rfl (.tmp 13) (.tmp 15) rfl w0.heap.size (.slice AV us.length cv) us D { r with type := k, len := (n : Int) } hone rfl rfl HH2.out.row.own (by omega) HH2.out.row.kept.size ?_
  intro A4 c4 w4 hown4 hk4 hob4
  have HR4 := xhd (HH2.out.row.more (r := { r with type := k, len := (n : Int) }) HD2.out hown4 hk4 hob4)
  have hlb4 : ¬ (Value.slice AV us.length cv).ownBlock = some lb := fun e => (HH2.out.far lb e).1 rfl
  have hb4 := HH2.out.blk.keeps hk4 hlb4
  have y0 : w4.cell? ⟨lb, 0, none⟩ = some (.slice AV us.length cv) := by rw [hb4.cell]; rfl
  have fy := hb4.frozen 0
  have HB5 := xhd (hb4.set 0 (.slice A4 (us.length + 1) c4))
  have KL := (Keeps.refl (only lb) w4).put 0 (.slice A4 (us.length + 1) c4)
  have HFAR := xhd (show ∀ b, (Value.slice A4 (us.length + 1) c4).ownBlock = some b → b ≠ lb ∧ ¬ P b from fun b hb => by
   rcases hob4 b hb with e | e
   ·exact HH2.out.far b e
   ·exact ⟨fun e2 => by have := HH2.out.blk.lt; omega, fun e2 => by have := (HH2.out.pl b e2).1; omega⟩)
  have HR5 := xhd (HR4.out.other KL (fun b e => by have e : b = lb := e; rw [e]; exact ⟨fun e2 => (HFAR.out lb e2).1 rfl, fun e2 => (HH2.out.pl lb e2).2 rfl, HH2.out.lbn⟩))
  have HK5 := xhd (show Keeps (fun i => w0.heap.size ≤ i ∧ ¬ P i) w _ from ((HK2.out.mono (fun _ e => e.elim)).trans (hk4.mono (fun b e => ⟨ownsRow_ge HH2.out.row.own b e, (HH2.out.far b e).2⟩))).trans (KL.mono (fun b e => by have e : b = lb := e; rw [e]; exact ⟨HH2.out.lbn, fun e2 => (HH2.out.pl lb e2).2 rfl⟩)))
  have HS5 := xhd (show ∀ b, P b → b < w4.heap.size from fun b hb => Nat.lt_of_lt_of_le (HH2.out.pl b hb).1 hk4.size)
  clear hown4 hk4 hob4 hb4 KL c0 r0 r1 r2 r3 r4 r5 r6
  go_wp2_with fail
  go_end0
  exact ⟨rfl, _, us ++ [(D, { r with type := k, len := (n : Int) })], ⟨HR5.out, HFAR.out, HH2.out.lbn, fun b hb => ⟨by simpa using HS5.out b hb, (HH2.out.pl b hb).2⟩, HB5.out⟩, by simp [rulesOf, HN.out], by simp, HK5.out⟩
namespace Pure
section
variable {N : Type} (inp : N → Pkt → N × List Pkt) (mx my : Nat → Pkt) (ra rb : Bool)
def asking (i : Nat) : Bool := i == 0 || i == 2
def answered' (i : Nat) : Bool := i == 1 || i == 3
def waits (m o : Nat → Pkt) (i j : Nat) : List Pkt := (if answered' i then [m i] else []) ++ (if asking j then [o j] else [])
variable {inp mx my ra rb} {X Y : Nat → Nat → N}
end
end Pure
namespace Pure
section
variable {rules orules : List Rule} {ask rej rest oask orej orest : List Opt} {r ro : Bool} {t u : Nat}
end
end Pure
namespace Pure
end Pure
end Go.Proofs.YtmgicbckgpdkcaaGreatDoor
