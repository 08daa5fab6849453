/- Package lcp: Ask. -/
import Derived.Test.YtmgicbckgpdkcaaGreatDoorL18
namespace Go.Proofs.YtmgicbckgpdkcaaGreatDoor
set_option maxRecDepth 100000
set_option maxHeartbeats 8000000
open _root_.Go.Lib renaming hid → xhd
open List renaming setIfInBounds_toArray → xqA, getElem_toArray → xqB, getElem_cons_succ → xqC, getElem_cons_zero → xqD, set_cons_succ → xqE, set_cons_zero → xqF
open Go.RowKit
theorem Below.turned {w0 w w' : World} {S : Nat → Prop} (b : Below w0.heap.size w0 w) (k : Keeps S w w') (h : ∀ i, S i → w0.heap.size ≤ i) : Below w0.heap.size w0 w' :=
 ⟨k.os.trans b.os, k.tape.trans b.tape, k.output.trans b.output, Nat.le_trans b.size k.size, fun i hi => (k.block i (Nat.lt_of_lt_of_le hi b.size) (fun e => by have := h i e; omega)).trans (b.block i hi)⟩
structure ARow (w0 w : World) (lb : Nat) (P : Nat → Prop) (v : Value) (qs : List (Value × Pure.Opt)) : Prop where
 own : w.ownsRow w0.heap.size 31 2 v qs.length (y0j qs)
 far : ∀ b, v.ownBlock = some b → b ≠ lb ∧ ¬ P b
 rows : ∀ p ∈ qs, Row w (fun b => w0.heap.size ≤ b ∧ v.ownBlock ≠ some b ∧ b ≠ lb ∧ b < w.heap.size) 1 p.1 p.2.2.length (u8s p.2.2)
 lbn : w0.heap.size ≤ lb
 lbl : lb < w.heap.size
 pl : ∀ b, P b → b < w.heap.size
 below : Below w0.heap.size w0 w
theorem ARow.turned {w0 w w' : World} {lb : Nat} {P S : Nat → Prop} {v : Value} {qs : List (Value × Pure.Opt)} (h : ARow w0 w lb P v qs) (k : Keeps S w w') (hS : ∀ b, S b → b = lb) : ARow w0 w' lb P v qs :=
 ⟨y0g h.own k (fun b hb e => (h.far b hb).1 (hS b e)), h.far, fun p hp => ((h.rows p hp).keeps k (fun b hb e => hb.2.2.1 (hS b e))).mono (fun b hb => ⟨hb.1, hb.2.1, hb.2.2.1, Nat.lt_of_lt_of_le hb.2.2.2 k.size⟩), h.lbn, Nat.lt_of_lt_of_le h.lbl k.size, fun b hb => Nat.lt_of_lt_of_le (h.pl b hb) k.size, Below.turned h.below k (fun i hi => by rw [hS i hi]; exact h.lbn)⟩
theorem ARow.quiet {w0 w w' : World} {lb : Nat} {P : Nat → Prop} {v : Value} {qs : List (Value × Pure.Opt)} (h : ARow w0 w lb P v qs) (k : Keeps y01 w w') : ARow w0 w' lb P v qs := h.turned k (fun _ e => e.elim)
theorem ARow.read {w0 w : World} {lb : Nat} {P : Nat → Prop} {v : Value} {qs : List (Value × Pure.Opt)} (h : ARow w0 w lb P v qs) : Read w0 w v qs :=
 ⟨h.own, fun p hp => (h.rows p hp).mono (fun _ hb => ⟨hb.1, hb.2.1, hb.2.2.2⟩), h.below⟩
theorem y56 {w0 w : World} {o : Oper} {a : Act} {Q : Exit → Act → World → Prop} {K : Act → World → Prop} (s x : Operand) (ho : o.op = .call { callee := .builtin .append, args := #[s, x], argTypes := #[27, 27] })
  {lb : Nat} {P : Nat → Prop} (v : Value) (qs : List (Value × Pure.Opt)) (A3 : Option Addr) (c3 : Nat) (t : Int) (l : List UInt8) (hs : a.eval s = v) (hx : a.eval x = .slice (some ⟨w.heap.size, 0, none⟩) 1 1) (hR : ARow w0 w lb P v qs) (hq : qs.length ≤ 1000)
  (hd : Row w (fun b => w0.heap.size ≤ b ∧ v.ownBlock ≠ some b ∧ b ≠ lb ∧ b < w.heap.size) 1 (.slice A3 l.length c3) l.length (u8s l))
  (h : ∀ A c w', ARow w0 w' lb P (.slice A (qs.length + 1) c) (qs ++ [(.slice A3 l.length c3, (t, l))]) → Keeps (fun b => v.ownBlock = some b) w w' → K (a.put o.dst (.slice A (qs.length + 1) c)) w') :
  o.wp Tryz.prog a (w.alloc (.cells #[.int .i64 t, .slice A3 l.length c3] 31)) K Q := by
 obtain ⟨i0, hi0, hz0, hz1, hz2⟩ := info_parts y4l
 obtain ⟨wb, hwb⟩ : ∃ wb, wb = w.alloc (.cells #[.int .i64 t, .slice A3 l.length c3] 31) := ⟨_, rfl⟩
 rw [← hwb]
 have hkb : Keeps y01 w wb := by rw [hwb]; exact (Keeps.refl _ w).alloc _
 have hbb : Blk wb w.heap.size 31 #[.int .i64 t, .slice A3 l.length c3] := by rw [hwb]; exact Blk.new w _ _
 have hsb : wb.heap.size = w.heap.size + 1 := by rw [hwb]; simp
 have hrb : Row wb (fun b => b = w.heap.size) 2 (.slice (some ⟨w.heap.size, 0, none⟩) 1 1) 1 (y0j [(.slice A3 l.length c3, (t, l))]) :=
  Row.block (F := fun b => b = w.heap.size) (n := 1) (c := 1) (size := 2) hbb rfl rfl (by unfold maxLen; omega) (Nat.le_refl _)
 have hb := hR.quiet hkb
 refine y1s s x _ ho w0.heap.size 31 i0 _ 2 32 Tryz.underlying27 hi0 hz0 hz1 hz2 rfl (by omega) v _ (y0j qs) hs hb.own _ _ 1 _ hx hrb (y3g _ (by intro p hp; rw [List.mem_singleton.1 hp]; rfl)) (by unfold maxLen; omega) (by omega) hb.below.size ?_
 intro v3 w3 hown3 hg3 hat3
 have hcat : y0j qs ++ y0j [(.slice A3 l.length c3, (t, l))] = y0j (qs ++ [(.slice A3 l.length c3, (t, l))]) := by simp [y0j]
 rw [hcat] at hown3
 have hkw : Keeps (fun b => v.ownBlock = some b) wb w3 := (Keeps.refl _ wb).grown hg3 (fun k hk _ => hk)
 have hk : Keeps (fun b => v.ownBlock = some b) w w3 := (hkb.mono (fun _ h => h.elim)).trans hkw
 have hnew : ∀ b, v3.ownBlock = some b → v.ownBlock = some b ∨ b = wb.heap.size := fun b hb => by
  rcases hat3 with e | e
  ·exact .inl (e ▸ hb)
  ·rw [e] at hb; injection hb with hb; exact .inr hb.symm
 have hread : ARow w0 w3 lb P v3 (qs ++ [(.slice A3 l.length c3, (t, l))]) := by
  refine ⟨by rw [List.length_append]; exact hown3, fun b hb => ?_, fun p hp => ?_, hR.lbn, Nat.lt_of_lt_of_le hR.lbl hk.size, fun b hb => Nat.lt_of_lt_of_le (hR.pl b hb) hk.size, Below.turned hR.below hk (fun i hi => y06 hR.own i hi)⟩
  ·rcases hnew b hb with h1 | h1
   ·exact hR.far b h1
   ·exact ⟨fun e => by have := hR.lbl; omega, fun e => by have := hR.pl b e; omega⟩
  ·have hrow : Row w (fun b => w0.heap.size ≤ b ∧ v.ownBlock ≠ some b ∧ b ≠ lb ∧ b < w.heap.size) 1 p.1 p.2.2.length (u8s p.2.2) := by
    rcases List.mem_append.1 hp with hp | hp
    ·exact hR.rows p hp
    ·rw [List.mem_singleton.1 hp]; exact hd
   refine (hrow.keeps hk (fun b hb => hb.2.1)).mono (fun b hb => ⟨hb.1, fun e => ?_, hb.2.2.1, Nat.lt_of_lt_of_le hb.2.2.2 hk.size⟩)
   rcases hnew b e with h1 | h1
   ·exact hb.2.1 h1
   ·have := hb.2.2.2; omega
 obtain ⟨A4, c4, rfl⟩ := y04 hown3
 exact h A4 c4 w3 hread hk
structure AVar (w0 w : World) (lb : Nat) (P : Nat → Prop) (v : Value) (qs : List (Value × Pure.Opt)) : Prop where
 row : ARow w0 w lb P v qs
 blk : Blk w lb 27 #[v]
theorem ask1_any (b : Bool) (k : Int) (x : Nat) (hx : x < 4294967296) (w0 : World) (lb : Nat) (P : Nat → Prop) (v : Value) (qs : List (Value × Pure.Opt)) (w : World) (h : AVar w0 w lb P v qs) (hq : qs.length ≤ 100) (hP : ¬ P lb) :
  Calls Tryz.prog 51 #[.bool b, .int .i64 k, .int .i64 (x : Int), .pointer (some ⟨lb, 0, none⟩)] w fun e w' => e = .returned (.tuple #[]) ∧ ∃ v' qs', AVar w0 w' lb P v' qs' ∧ y02 qs' = y02 qs ++ (if b then [(k, Pure.wide x (Pure.psize k))] else []) ∧ qs'.length ≤ qs.length + 1 ∧ Keeps (fun i => w0.heap.size ≤ i ∧ ¬ P i) w w' := by
 cases b
 ·have HH := xhd h
  clear h
  go_enter Tryz.func51, Tryz.ntmps51
  go_wp2_with fail
  go_end0
  exact ⟨rfl, v, qs, HH.out, by simp, by omega, Keeps.refl _ _⟩
 ·obtain ⟨AV, cv, rfl⟩ := y04 h.row.own
  have HH := xhd h.row
  have HB := xhd h.blk
  have c0 : w.drew.cell? ⟨lb, 0, none⟩ = some (.slice AV qs.length cv) := by
   have := (h.blk.keeps ((Keeps.refl y01 w).drew) (fun e => e))
   rw [this.cell]; rfl
  have hkz := Keeps.refl y01 w
  have HPL := xhd hP
  clear h hP
  go_enter Tryz.func51, Tryz.ntmps51
  go_upto_region 1 with fail
  refine y0i (fun w' => w'.cell? ⟨lb, 0, none⟩ = some (.slice AV qs.length cv)) 6 7 rfl (by kernel_rfl) c0 (fun hHeld => ?_)
  have HSW := hHeld
  clear hHeld c0
  have HK0d := xhd (hkz.drew)
  clear hkz
  refine y00 (i := 0) rfl (by kernel_rfl) (fun _ _ _ h => h) (Or.inl ⟨by rfl, by intro w hSw; go_simp; try with_reducible rfl⟩) HSW.out ?_
  simp only [Act.put, xqA, xqB, xqD, xqE, xqF]
  refine y00 (i := 1) rfl (by kernel_rfl) (fun _ _ _ h => h) (Or.inl ⟨by rfl, by intro w hSw; go_simp; try with_reducible rfl⟩) HSW.out ?_
  simp only [Act.put, xqA, xqB, xqC, xqD, xqE, xqF]
  refine y00 (i := 2) rfl (by kernel_rfl) (fun _ _ _ h => h) (Or.inl ⟨by rfl, by intro w hSw; go_simp; try with_reducible rfl⟩) HSW.out ?_
  simp only [Act.put, xqA, xqB, xqC, xqD, xqE, xqF]
  refine y05 (i := 3) (by kernel_rfl) rfl (fun K hK => ?_)
  try rw [if_pos (by rfl)]
  go_simp
  refine (y46 k x hx _).mono ?_
  rintro e w2 ⟨A, c, rfl, hr, hk2⟩
  have hk02 := HK0d.out.trans hk2
  have hl : (Pure.wide x (Pure.psize k)).length = Pure.psize k := Pure.wide_length _ _
  obtain ⟨L, hL⟩ : ∃ L, L = Pure.wide x (Pure.psize k) := ⟨_, rfl⟩
  rw [← hL] at hr hl
  rw [← hl] at hr ⊢
  have HL := xhd hL
  have HR2 := xhd (HH.out.quiet hk02)
  have HS2 := xhd (y0x HSW.out hk2)
  have HB2 := xhd (HB.out.keeps hk02 (fun e => e))
  have HD2 := xhd ((hr.strongN (by omega)).mono (G := fun b => w0.heap.size ≤ b ∧ (Value.slice AV qs.length cv).ownBlock ≠ some b ∧ b ≠ lb ∧ b < w2.heap.size) (fun b hb => by
   have h1 := hb.1
   have h2 : w.drew.heap.size = w.heap.size := rfl
   have h3 := HH.out.lbl
   have h4 := HH.out.lbn
   exact ⟨by omega, fun e => by have := y0o HH.out.own b e; omega, by omega, hb.2⟩))
  have HK2 := xhd hk02
  clear hk2 hr hk02 hl hL
  refine hK.out _ _ (fun _ => HS2.out) ?_
  clear hK K
  try simp only [Act.put, xqA, Nat.reduceAdd, xqB, xqC, xqD, xqE, xqF]
  refine y05 (i := 4) (by kernel_rfl) rfl (fun K hK => ?_)
  try rw [if_pos (by rfl)]
  go_simp
  have HS3 := xhd (y0x HS2.out ((Keeps.refl y01 w2).alloc (.cells #[.int .i64 k, .slice A L.length c] 31)))
  refine hK.out _ _ (fun _ => HS3.out) ?_
  clear hK K
  try simp only [Act.put, xqA, Nat.reduceAdd, xqB, xqC, xqD, xqE, xqF]
  refine y05 (i := 5) (by kernel_rfl) rfl (fun K hK => ?_)
  rw [if_pos (by rfl)]
  refine y56 (.tmp 8) (.tmp 12) rfl (.slice AV qs.length cv) qs A c k L rfl rfl HR2.out (by omega) HD2.out ?_
  intro A4 c4 w4 hr4 hk4
  have hb4 := HB2.out.keeps hk4 (fun e => (HR2.out.far lb e).1 rfl)
  have HS4 := xhd (show w4.cell? ⟨lb, 0, none⟩ = some (.slice AV qs.length cv) by rw [hb4.cell]; rfl)
  have HR4 := xhd hr4
  have HB4 := xhd hb4
  have f4 := hb4.frozen 0
  have HK4 := xhd hk4
  clear hr4 hk4 hb4
  refine hK.out _ _ (fun _ => HS4.out) ?_
  clear hK K
  try simp only [Act.put, xqA, xqB, xqC, xqD, xqE, xqF]
  have x4 := HS4.out
  refine y05 (i := 6) (by kernel_rfl) rfl (fun K hK => ?_)
  go_simp
  have KS := (Keeps.refl (only lb) w4).put 0 (.slice A4 (qs.length + 1) c4)
  have HB5 := xhd (HB4.out.set 0 (.slice A4 (qs.length + 1) c4))
  have HR5 := xhd (HR4.out.turned KS (fun b e => e))
  have HK5 := xhd (show Keeps (fun i => w0.heap.size ≤ i ∧ ¬ P i) w _ from ((HK2.out.mono (fun _ e => e.elim)).trans (HK4.out.mono (fun b e => ⟨y06 HH.out.own b e, (HH.out.far b e).2⟩))).trans (KS.mono (fun b e => by have e : b = lb := e; rw [e]; exact ⟨HH.out.lbn, HPL.out⟩)))
  clear KS
  refine hK.out _ _ (fun h => absurd rfl h) ?_
  clear hK K
  refine y0f (by kernel_rfl) ?_ _
  go_wp2_with fail
  go_end0
  exact ⟨rfl, _, _, ⟨HR5.out, HB5.out⟩, by simp [y02, HL.out], by simp, HK5.out⟩
structure RVar (w0 w : World) (lb : Nat) (P : Nat → Prop) (v : Value) (us : List (Value × Pure.Rule)) : Prop where
 row : RRead w0 w P v us
 far : ∀ b, v.ownBlock = some b → b ≠ lb ∧ ¬ P b
 lbn : w0.heap.size ≤ lb
 pl : ∀ b, P b → b < w.heap.size ∧ b ≠ lb
 blk : Blk w lb 118 #[v]
theorem RVar.quiet {w0 w w' : World} {lb : Nat} {P : Nat → Prop} {v : Value} {us : List (Value × Pure.Rule)} (h : RVar w0 w lb P v us) (k : Keeps y01 w w') : RVar w0 w' lb P v us :=
 ⟨h.row.keeps k, h.far, h.lbn, fun b hb => ⟨Nat.lt_of_lt_of_le (h.pl b hb).1 k.size, (h.pl b hb).2⟩, h.blk.keeps k (fun e => e)⟩
theorem RRead.other {w0 w w' : World} {F S : Nat → Prop} {v : Value} {us : List (Value × Pure.Rule)} (h : RRead w0 w F v us) (k : Keeps S w w') (h1 : ∀ b, S b → v.ownBlock ≠ some b ∧ ¬ F b ∧ w0.heap.size ≤ b) : RRead w0 w' F v us :=
 ⟨y0g h.own k (fun b hb e => (h1 b e).1 hb), fun p hp => ((h.rows p hp).keeps k (fun b hb e => (h1 b e).2.1 hb.1)).mono (fun _ hb => ⟨hb.1, hb.2.1, Nat.lt_of_lt_of_le hb.2.2 k.size⟩), h.kept.trans' k (fun i hi hl => by have := (h1 i hi).2.2; omega)⟩
theorem allow1_any (b : Bool) (k : Int) (r : Pure.Rule) (D : Value) (w0 : World) (lb : Nat) (P : Nat → Prop) (v : Value) (us : List (Value × Pure.Rule)) (w : World) (h : RVar w0 w lb P v us) (hq : us.length ≤ 100) (hone : D.oneCell' = true) (hD : Row w (fun b => P b) 1 D r.want.length (u8s r.want)) :
  Calls Tryz.prog 113 #[.bool b, .int .i64 k, ruleV (D, r), .pointer (some ⟨lb, 0, none⟩)] w fun e w' => e = .returned (.tuple #[]) ∧ ∃ v' us', RVar w0 w' lb P v' us' ∧ y0e us' = y0e us ++ (if b then [{ r with type := k, len := (Pure.psize k : Int) }] else []) ∧ us'.length ≤ us.length + 1 ∧ Keeps (fun i => w0.heap.size ≤ i ∧ ¬ P i) w w' := by
 cases b
 ·have HH := xhd (h.quiet ((Keeps.refl y01 w).alloc (.cells #[.int .i64 r.type, .int .i64 r.len, .int .i64 r.how, .int .i64 r.lo, .int .i64 r.hi, D, .bool r.need] 122)))
  have HK := xhd ((Keeps.refl (fun i => w0.heap.size ≤ i ∧ ¬ P i) w).alloc (.cells #[.int .i64 r.type, .int .i64 r.len, .int .i64 r.how, .int .i64 r.lo, .int .i64 r.hi, D, .bool r.need] 122))
  clear h hD
  go_enter Tryz.func113, Tryz.ntmps113
  go_wp2_with fail
  go_end0
  exact ⟨rfl, v, us, HH.out, by simp, by omega, HK.out⟩
 ·obtain ⟨AV, cv, rfl⟩ := y04 h.row.own
  obtain ⟨rb, hrb⟩ : ∃ q, q = w.heap.size := ⟨_, rfl⟩
  obtain ⟨w1, hw1⟩ : ∃ q, q = w.alloc (.cells (y0c (D, r)).toArray 122) := ⟨_, rfl⟩
  have hk1 : Keeps y01 w w1 := by rw [hw1]; exact (Keeps.refl _ w).alloc _
  have hb1 : Blk w1 rb 122 (y0c (D, r)).toArray := by rw [hw1, hrb]; exact Blk.new w _ _
  have hlbl : lb < w.heap.size := h.blk.lt
  have HSZ := xhd (y3f k)
  have h1 := h.quiet hk1
  have z0 : w1.cell? ⟨rb, 0, none⟩ = some (.int .i64 r.type) := by rw [hb1.cell]; rfl
  have z1 : w1.cell? ⟨rb, 1, none⟩ = some (.int .i64 r.len) := by rw [hb1.cell]; rfl
  have fz0 := hb1.frozen 0
  have fz1 := hb1.frozen 1
  obtain ⟨n, hn⟩ : ∃ n, n = Pure.psize k := ⟨_, rfl⟩
  obtain ⟨w2, hw2⟩ : ∃ q, q = (w1.setCell ⟨rb, 0, none⟩ (.int .i64 k)).setCell ⟨rb, 1, none⟩ (.int .i64 (n : Int)) := ⟨_, rfl⟩
  have KS : Keeps (only rb) w1 w2 := by rw [hw2]; exact ((Keeps.refl (only rb) w1).put 0 _).put 1 _
  have hb2 : Blk w2 rb 122 (y0c (D, { r with type := k, len := (n : Int) })).toArray := by rw [hw2]; exact (hb1.set 0 (.int .i64 k)).set 1 (.int .i64 (n : Int))
  have hk2 : Keeps y01 w w2 := hk1.trans' KS (fun i hi hl => by have e : i = rb := hi; omega)
  have h2 := h.quiet hk2
  have c0 : w2.cell? ⟨lb, 0, none⟩ = some (.slice AV us.length cv) := by rw [h2.blk.cell]; rfl
  have r0 : w2.cell? ⟨rb, 0, none⟩ = some (.int .i64 k) := by rw [hb2.cell]; rfl
  have r1 : w2.cell? ⟨rb, 1, none⟩ = some (.int .i64 (n : Int)) := by rw [hb2.cell]; rfl
  have r2 : w2.cell? ⟨rb, 2, none⟩ = some (.int .i64 r.how) := by rw [hb2.cell]; rfl
  have r3 : w2.cell? ⟨rb, 3, none⟩ = some (.int .i64 r.lo) := by rw [hb2.cell]; rfl
  have r4 : w2.cell? ⟨rb, 4, none⟩ = some (.int .i64 r.hi) := by rw [hb2.cell]; rfl
  have r5 : w2.cell? ⟨rb, 5, none⟩ = some D := by rw [hb2.cell]; rfl
  have r6 : w2.cell? ⟨rb, 6, none⟩ = some (.bool r.need) := by rw [hb2.cell]; rfl
  have HH2 := xhd h2
  have HK2 := xhd hk2
  have HD2 := xhd ((hD.keeps hk2 (fun _ _ e => e)).mono (G := fun b => P b ∧ (Value.slice AV us.length cv).ownBlock ≠ some b ∧ b < w2.heap.size) (fun b hb => ⟨hb, fun e => (h.far b e).2 hb, (h2.pl b hb).1⟩))
  have HN := xhd hn
  have hls := HSZ.out w1
  rw [← hn] at hls ⊢
  clear h hk1 hb1 h1 hlbl hD KS hb2 hk2 h2 hn
  go_enter Tryz.func113, Tryz.ntmps113
  go_upto_region 1 with fail
  rw [← hrb]
  rw [show w.alloc (.cells #[.int .i64 r.type, .int .i64 r.len, .int .i64 r.how, .int .i64 r.lo, .int .i64 r.hi, D, .bool r.need] 122) = w1 from hw1.symm]
  clear hrb hw1
  go_wp2_with fail
  refine hls.mono ?_
  rintro e wz ⟨rfl, rfl⟩
  go_upto_region 3 with fail
  rw [← hw2]
  clear hw2 z0 z1 fz0 fz1 hls
  go_wp2_with (at_builtin; refine y0d ?_)
  unfold Hid
  refine y2c rfl (.tmp 13) (.tmp 15) rfl w0.heap.size (.slice AV us.length cv) us D { r with type := k, len := (n : Int) } hone rfl rfl HH2.out.row.own (by omega) HH2.out.row.kept.size ?_
  intro A4 c4 w4 hown4 hk4 hob4
  have HR4 := xhd (HH2.out.row.more (r := { r with type := k, len := (n : Int) }) HD2.out hown4 hk4 hob4)
  have hlb4 : ¬ (Value.slice AV us.length cv).ownBlock = some lb := fun e => (HH2.out.far lb e).1 rfl
  have hb4 := HH2.out.blk.keeps hk4 hlb4
  have y0 : w4.cell? ⟨lb, 0, none⟩ = some (.slice AV us.length cv) := by rw [hb4.cell]; rfl
  have fy := hb4.frozen 0
  have HB5 := xhd (hb4.set 0 (.slice A4 (us.length + 1) c4))
  have KL := (Keeps.refl (only lb) w4).put 0 (.slice A4 (us.length + 1) c4)
  have HFAR := xhd (show ∀ b, (Value.slice A4 (us.length + 1) c4).ownBlock = some b → b ≠ lb ∧ ¬ P b from fun b hb => by
   rcases hob4 b hb with e | e
   ·exact HH2.out.far b e
   ·exact ⟨fun e2 => by have := HH2.out.blk.lt; omega, fun e2 => by have := (HH2.out.pl b e2).1; omega⟩)
  have HR5 := xhd (HR4.out.other KL (fun b e => by have e : b = lb := e; rw [e]; exact ⟨fun e2 => (HFAR.out lb e2).1 rfl, fun e2 => (HH2.out.pl lb e2).2 rfl, HH2.out.lbn⟩))
  have HK5 := xhd (show Keeps (fun i => w0.heap.size ≤ i ∧ ¬ P i) w _ from ((HK2.out.mono (fun _ e => e.elim)).trans (hk4.mono (fun b e => ⟨y06 HH2.out.row.own b e, (HH2.out.far b e).2⟩))).trans (KL.mono (fun b e => by have e : b = lb := e; rw [e]; exact ⟨HH2.out.lbn, fun e2 => (HH2.out.pl lb e2).2 rfl⟩)))
  have HS5 := xhd (show ∀ b, P b → b < w4.heap.size from fun b hb => Nat.lt_of_lt_of_le (HH2.out.pl b hb).1 hk4.size)
  clear hown4 hk4 hob4 hb4 KL c0 r0 r1 r2 r3 r4 r5 r6
  go_wp2_with fail
  go_end0
  exact ⟨rfl, _, us ++ [(D, { r with type := k, len := (n : Int) })], ⟨HR5.out, HFAR.out, HH2.out.lbn, fun b hb => ⟨by simpa using HS5.out b hb, (HH2.out.pl b hb).2⟩, HB5.out⟩, by simp [y0e, HN.out], by simp, HK5.out⟩
namespace Pure
section
variable {N : Type} (inp : N → Pkt → N × List Pkt) (mx my : Nat → Pkt) (ra rb : Bool)
def asking (i : Nat) : Bool := i == 0 || i == 2
def answered' (i : Nat) : Bool := i == 1 || i == 3
def waits (m o : Nat → Pkt) (i j : Nat) : List Pkt := (if answered' i then [m i] else []) ++ (if asking j then [o j] else [])
variable {inp mx my ra rb} {X Y : Nat → Nat → N}
end
end Pure
namespace Pure
theorem ask_cases {c : Cfg} {m : Nat} {o : Opt} (h : o ∈ c.ask m) : (o = (1, wide c.mru.toNat 2) ∧ c.mru ≠ 1500) ∨ (o = (2, wide c.accm 4) ∧ c.accm ≠ 4294967295) ∨ (o = (3, proofData) ∧ c.server = true) ∨ (o = (5, wide m 4) ∧ m ≠ 0) ∨ (o = (7, []) ∧ c.pfc = true) ∨ (o = (8, []) ∧ c.acfc = true) ∨ (o = (17, wide c.mrru.toNat 2) ∧ c.mrru ≠ 0) ∨ (o = (18, []) ∧ c.mrru ≠ 0 ∧ c.short = true) := by
 unfold Cfg.ask at h
 simp only [List.mem_append] at h
 rcases h with ((((((h | h) | h) | h) | h) | h) | h) | h
 ·split at h
  ·cases h
  ·rename_i hc; exact .inl ⟨List.mem_singleton.1 h, hc⟩
 ·split at h
  ·cases h
  ·rename_i hc; exact .inr (.inl ⟨List.mem_singleton.1 h, hc⟩)
 ·split at h
  ·rename_i hc; exact .inr (.inr (.inl ⟨List.mem_singleton.1 h, hc⟩))
  ·cases h
 ·split at h
  ·cases h
  ·rename_i hc; exact .inr (.inr (.inr (.inl ⟨List.mem_singleton.1 h, hc⟩)))
 ·split at h
  ·rename_i hc; exact .inr (.inr (.inr (.inr (.inl ⟨List.mem_singleton.1 h, hc⟩))))
  ·cases h
 ·split at h
  ·rename_i hc; exact .inr (.inr (.inr (.inr (.inr (.inl ⟨List.mem_singleton.1 h, hc⟩)))))
  ·cases h
 ·split at h
  ·cases h
  ·rename_i hc; exact .inr (.inr (.inr (.inr (.inr (.inr (.inl ⟨List.mem_singleton.1 h, hc⟩))))))
 ·split at h
  ·cases h
  ·rename_i hc
   split at h
   ·rename_i hs; exact .inr (.inr (.inr (.inr (.inr (.inr (.inr ⟨List.mem_singleton.1 h, hc, hs⟩))))))
   ·cases h
theorem ask_types (c : Cfg) (m : Nat) : ((c.ask m).map Prod.fst).Sublist [1, 2, 3, 5, 7, 8, 17, 18] := by
 have one : ∀ (p : Prop) [Decidable p] (o : Opt), ((if p then [] else [o]).map Prod.fst).Sublist [o.1] := fun p _ o => by
  split
  ·exact List.nil_sublist _
  ·exact List.Sublist.refl _
 have two : ∀ (p : Bool) (o : Opt), ((if p then [o] else []).map Prod.fst).Sublist [o.1] := fun p o => by
  split
  ·exact List.Sublist.refl _
  ·exact List.nil_sublist _
 have three : ((if c.mrru = 0 then [] else if c.short then [((18 : Int), ([] : List UInt8))] else []).map Prod.fst).Sublist [18] := by
  split
  ·exact List.nil_sublist _
  ·exact two _ _
 unfold Cfg.ask
 simp only [List.map_append]
 exact (((((((one _ _).append (one _ _)).append (two _ _)).append (one _ _)).append (two _ _)).append (two _ _)).append (one _ _)).append three
theorem ask_fine (c : Cfg) (m : Nat) : Fine (c.ask m) := by
 refine ⟨?_, fun o ho => ?_⟩
 ·have := (ask_types c m).length_le
  rw [List.length_map] at this
  exact Nat.le_trans this (by decide)
 ·unfold Opt.odd
  rcases ask_cases ho with ⟨rfl, _⟩ | ⟨rfl, _⟩ | ⟨rfl, _⟩ | ⟨rfl, _⟩ | ⟨rfl, _⟩ | ⟨rfl, _⟩ | ⟨rfl, _⟩ | ⟨rfl, _⟩ <;> simp [wide_length, proofData]
theorem fine_nums {c : Cfg} (h : c.fine = true) : 64 ≤ c.mru ∧ c.mru ≤ 1500 ∧ (c.mrru = 0 ∨ 64 ≤ c.mrru ∧ c.mrru ≤ 1500) := by
 unfold Cfg.fine inInfo at h
 simp only [Bool.and_eq_true, Bool.or_eq_true, decide_eq_true_eq] at h
 exact ⟨h.1.1.1.1.1.1.1, h.1.1.1.1.1.1.2, h.1.1.1.1.1.2⟩
end Pure
abbrev y07 (c : Pure.Cfg) (nm sc : ByteArray) : List Value := [.bool c.server, .string nm, .string sc, .int .i64 c.mru, .bool c.pfc, .bool c.acfc, .int .u32 (c.accm : Int), .int .i64 c.mrru, .bool c.short, .int .i64 c.bits, .bool c.stateless, .bool c.mppc, .bool c.deflate, .bool c.must, .bool c.symbol, .int .i64 c.timeout, .int .i64 c.tries, .int .i64 c.fragment]
abbrev cfgV (c : Pure.Cfg) (nm sc : ByteArray) : Value := .agg (y07 c nm sc).toArray
theorem y1t (b : Bool) (k : Int) (x : Nat) (y : Int) (hy : y = (x : Int)) (hx : x < 4294967296) (L : List Pure.Opt) (hL : L = if b then [(k, Pure.wide x (Pure.psize k))] else []) (w0 : World) (lb : Nat) (P : Nat → Prop) (v : Value) (qs : List (Value × Pure.Opt)) (w : World) (h : AVar w0 w lb P v qs) (hq : qs.length ≤ 100) (hP : ¬ P lb) :
  Calls Tryz.prog 51 #[.bool b, .int .i64 k, .int .i64 y, .pointer (some ⟨lb, 0, none⟩)] w fun e w' => e = .returned (.tuple #[]) ∧ ∃ v' qs', AVar w0 w' lb P v' qs' ∧ y02 qs' = y02 qs ++ L ∧ qs'.length ≤ qs.length + 1 ∧ Keeps (fun i => w0.heap.size ≤ i ∧ ¬ P i) w w' := by
 rw [hy, hL]
 exact ask1_any b k x hx w0 lb P v qs w h hq hP
theorem lask_any (c : Pure.Cfg) (nm sc : ByteArray) (hf : c.fine = true) (ha : c.accm < 4294967296) (m : Nat) (hm : m < 4294967296) (w : World) :
  Calls Tryz.prog 14 #[cfgV c nm sc, .int .u32 (m : Int)] w fun e w' => ∃ v, ∃ qs : List (Value × Pure.Opt), e = .returned v ∧ y02 qs = c.ask m ∧ Read w w' v qs := by
 obtain ⟨cb, hcb⟩ : ∃ q, q = w.heap.size := ⟨_, rfl⟩
 obtain ⟨w1, hw1⟩ : ∃ q, q = (w.alloc (.cells (y07 c nm sc).toArray 25)).alloc (.cells #[.slice none 0 0] 27) := ⟨_, rfl⟩
 have hk1 : Keeps y01 w w1 := by rw [hw1]; exact ((Keeps.refl _ w).alloc _).alloc _
 have HC := xhd (show Blk w1 cb 25 (y07 c nm sc).toArray by rw [hw1, hcb]; exact (Blk.new w _ _).alloc _)
 have hL : Blk w1 (cb + 1) 27 #[.slice none 0 0] := by
  rw [hw1, show cb + 1 = (w.alloc (.cells (y07 c nm sc).toArray 25)).heap.size by rw [hcb]; simp]
  exact Blk.new _ _ _
 have HA0 := xhd (show AVar w w1 (cb + 1) (fun b => b = cb) (.slice none 0 0) [] from ⟨⟨World.ownsRow_nil _ _ _ _, fun b e => (by cases e), by simp, by omega, hL.lt, fun b e => by rw [e]; exact HC.out.lt, hk1.to_below⟩, hL⟩)
 have HF := xhd hf
 have HAC := xhd ha
 obtain ⟨hmr, hmr2, hrr⟩ := Pure.fine_nums hf
 have emru : c.mru = ((c.mru.toNat : Nat) : Int) := by omega
 have hmru : c.mru.toNat < 4294967296 := by omega
 have emrru : c.mrru = ((c.mrru.toNat : Nat) : Int) := by omega
 have hmrru : c.mrru.toNat < 4294967296 := by omega
 have HM1 := xhd emru
 have HM2 := xhd emrru
 have HM3 := xhd hmru
 have HM4 := xhd hmrru
 have HNL := xhd (show ¬ cb + 1 = cb by omega)
 have HMM := xhd hm
 have eA : wrap64 (c.accm : Int) = (c.accm : Int) := IntWalk.wrap64_in _ (by omega)
 have eM : wrap64 (m : Int) = (m : Int) := IntWalk.wrap64_in _ (by omega)
 clear hk1 hL hf ha hmr hmr2 hrr emru hmru emrru hmrru hm
 have HL1 := xhd (show (if c.mru = 1500 then [] else [(1, Pure.wide c.mru.toNat 2)]) = if (c.mru != 1500) then [((1 : Int), Pure.wide c.mru.toNat (Pure.psize 1))] else [] from by by_cases h : c.mru = 1500 <;> simp [h, Pure.psize])
 have HQ1 := xhd (fun (v : Value) (qs : List (Value × Pure.Opt)) (W : World) (h : AVar w W (cb + 1) (fun b => b = cb) v qs) (hq : qs.length ≤ 100) => y1t (c.mru != 1500) 1 (c.mru.toNat) (c.mru) (HM1.out) (HM3.out) (if c.mru = 1500 then [] else [(1, Pure.wide c.mru.toNat 2)]) HL1.out w (cb + 1) (fun b => b = cb) v qs W h hq HNL.out)
 have HL2 := xhd (show (if c.accm = 4294967295 then [] else [(2, Pure.wide c.accm 4)]) = if ((c.accm : Int) != 4294967295) then [((2 : Int), Pure.wide c.accm (Pure.psize 2))] else [] from by
  by_cases h : c.accm = 4294967295
  ·simp [h]
  ·have : (((c.accm : Int) != 4294967295)) = true := by rw [bne_iff_ne]; omega
   rw [this]; simp [h, Pure.psize])
 have HQ2 := xhd (fun (v : Value) (qs : List (Value × Pure.Opt)) (W : World) (h : AVar w W (cb + 1) (fun b => b = cb) v qs) (hq : qs.length ≤ 100) => y1t ((c.accm : Int) != 4294967295) 2 (c.accm) ((c.accm : Int)) (rfl) (HAC.out) (if c.accm = 4294967295 then [] else [(2, Pure.wide c.accm 4)]) HL2.out w (cb + 1) (fun b => b = cb) v qs W h hq HNL.out)
 have HL3 := xhd (show (if c.server then [(3, Pure.proofData)] else []) = if c.server then [((3 : Int), Pure.wide 12723073 (Pure.psize 3))] else [] from by cases c.server <;> simp [Pure.psize, Pure.proofData, Pure.wide] <;> decide)
 have HQ3 := xhd (fun (v : Value) (qs : List (Value × Pure.Opt)) (W : World) (h : AVar w W (cb + 1) (fun b => b = cb) v qs) (hq : qs.length ≤ 100) => y1t c.server 3 (12723073) (12723073) (rfl) ((by decide)) (if c.server then [(3, Pure.proofData)] else []) HL3.out w (cb + 1) (fun b => b = cb) v qs W h hq HNL.out)
 have HL4 := xhd (show (if m = 0 then [] else [(5, Pure.wide m 4)]) = if ((m : Int) != 0) then [((5 : Int), Pure.wide m (Pure.psize 5))] else [] from by
  by_cases h : m = 0
  ·simp [h]
  ·have : (((m : Int) != 0)) = true := by rw [bne_iff_ne]; omega
   rw [this]; simp [h, Pure.psize])
 have HQ4 := xhd (fun (v : Value) (qs : List (Value × Pure.Opt)) (W : World) (h : AVar w W (cb + 1) (fun b => b = cb) v qs) (hq : qs.length ≤ 100) => y1t ((m : Int) != 0) 5 (m) ((m : Int)) (rfl) (HMM.out) (if m = 0 then [] else [(5, Pure.wide m 4)]) HL4.out w (cb + 1) (fun b => b = cb) v qs W h hq HNL.out)
 have HL5 := xhd (show (if c.pfc then [(7, [])] else []) = if c.pfc then [((7 : Int), Pure.wide 0 (Pure.psize 7))] else [] from by cases c.pfc <;> simp [Pure.psize, Pure.wide])
 have HQ5 := xhd (fun (v : Value) (qs : List (Value × Pure.Opt)) (W : World) (h : AVar w W (cb + 1) (fun b => b = cb) v qs) (hq : qs.length ≤ 100) => y1t c.pfc 7 (0) (0) (rfl) ((by decide)) (if c.pfc then [(7, [])] else []) HL5.out w (cb + 1) (fun b => b = cb) v qs W h hq HNL.out)
 have HL6 := xhd (show (if c.acfc then [(8, [])] else []) = if c.acfc then [((8 : Int), Pure.wide 0 (Pure.psize 8))] else [] from by cases c.acfc <;> simp [Pure.psize, Pure.wide])
 have HQ6 := xhd (fun (v : Value) (qs : List (Value × Pure.Opt)) (W : World) (h : AVar w W (cb + 1) (fun b => b = cb) v qs) (hq : qs.length ≤ 100) => y1t c.acfc 8 (0) (0) (rfl) ((by decide)) (if c.acfc then [(8, [])] else []) HL6.out w (cb + 1) (fun b => b = cb) v qs W h hq HNL.out)
 have HL7 := xhd (show (if c.mrru = 0 then [] else [(17, Pure.wide c.mrru.toNat 2)]) = if (c.mrru != 0) then [((17 : Int), Pure.wide c.mrru.toNat (Pure.psize 17))] else [] from by by_cases h : c.mrru = 0 <;> simp [h, Pure.psize])
 have HQ7 := xhd (fun (v : Value) (qs : List (Value × Pure.Opt)) (W : World) (h : AVar w W (cb + 1) (fun b => b = cb) v qs) (hq : qs.length ≤ 100) => y1t (c.mrru != 0) 17 (c.mrru.toNat) (c.mrru) (HM2.out) (HM4.out) (if c.mrru = 0 then [] else [(17, Pure.wide c.mrru.toNat 2)]) HL7.out w (cb + 1) (fun b => b = cb) v qs W h hq HNL.out)
 have HL8 := xhd (show (if c.mrru = 0 then [] else if c.short then [(18, [])] else []) = if (c.short && (c.mrru != 0)) then [((18 : Int), Pure.wide 0 (Pure.psize 18))] else [] from by by_cases h : c.mrru = 0 <;> cases hs : c.short <;> simp [h, Pure.psize, Pure.wide])
 have HQ8 := xhd (fun (B : Bool) (v : Value) (qs : List (Value × Pure.Opt)) (W : World) (h : AVar w W (cb + 1) (fun b => b = cb) v qs) (hq : qs.length ≤ 100) => ask1_any B 18 0 (by decide) w (cb + 1) (fun b => b = cb) v qs W h hq HNL.out)
 go_enter Tryz.func14, Tryz.ntmps14
 go_upto_region 3 with fail
 rw [← hcb, ← hw1]
 clear hw1 hcb
 have c3 : w1.cell? ⟨cb, 3, none⟩ = some (.int .i64 c.mru) := by rw [HC.out.cell]; rfl
 have hq1 := HQ1.out _ _ w1 HA0.out (by simp)
 go_wp2_with fail
 refine hq1.mono ?_
 rintro e w2 ⟨rfl, v1, q1, ha1, he1, hn1, hk1⟩
 have HA1 := xhd ha1
 have HE1 := xhd he1
 have HN1 := xhd (show q1.length ≤ 1 from (by simpa using hn1))
 have HC1 := xhd (HC.out.keeps hk1 (fun e => e.2 rfl))
 clear ha1 he1 hn1 hk1 hq1 c3
 have c6 : w2.cell? ⟨cb, 6, none⟩ = some (.int .u32 (c.accm : Int)) := by rw [HC1.out.cell]; rfl
 have hq2 := HQ2.out _ _ w2 HA1.out (by have := HN1.out; omega)
 go_wp2_with fail
 refine hq2.mono ?_
 rintro e w3 ⟨rfl, v2, q2, ha2, he2, hn2, hk2⟩
 have HA2 := xhd ha2
 have HE2 := xhd he2
 have HN2 := xhd (show q2.length ≤ 2 from (by have := HN1.out; omega))
 have HC2 := xhd (HC1.out.keeps hk2 (fun e => e.2 rfl))
 clear ha2 he2 hn2 hk2 hq2 c6
 have c0 : w3.cell? ⟨cb, 0, none⟩ = some (.bool c.server) := by rw [HC2.out.cell]; rfl
 have hq3 := HQ3.out _ _ w3 HA2.out (by have := HN2.out; omega)
 go_wp2_with fail
 refine hq3.mono ?_
 rintro e w4 ⟨rfl, v3, q3, ha3, he3, hn3, hk3⟩
 have HA3 := xhd ha3
 have HE3 := xhd he3
 have HN3 := xhd (show q3.length ≤ 3 from (by have := HN2.out; omega))
 have HC3 := xhd (HC2.out.keeps hk3 (fun e => e.2 rfl))
 clear ha3 he3 hn3 hk3 hq3 c0
 have hq4 := HQ4.out _ _ w4 HA3.out (by have := HN3.out; omega)
 go_wp2_with fail
 refine hq4.mono ?_
 rintro e w5 ⟨rfl, v4, q4, ha4, he4, hn4, hk4⟩
 have HA4 := xhd ha4
 have HE4 := xhd he4
 have HN4 := xhd (show q4.length ≤ 4 from (by have := HN3.out; omega))
 have HC4 := xhd (HC3.out.keeps hk4 (fun e => e.2 rfl))
 clear ha4 he4 hn4 hk4 hq4
 have c4 : w5.cell? ⟨cb, 4, none⟩ = some (.bool c.pfc) := by rw [HC4.out.cell]; rfl
 have hq5 := HQ5.out _ _ w5 HA4.out (by have := HN4.out; omega)
 go_wp2_with fail
 refine hq5.mono ?_
 rintro e w6 ⟨rfl, v5, q5, ha5, he5, hn5, hk5⟩
 have HA5 := xhd ha5
 have HE5 := xhd he5
 have HN5 := xhd (show q5.length ≤ 5 from (by have := HN4.out; omega))
 have HC5 := xhd (HC4.out.keeps hk5 (fun e => e.2 rfl))
 clear ha5 he5 hn5 hk5 hq5 c4
 have c5 : w6.cell? ⟨cb, 5, none⟩ = some (.bool c.acfc) := by rw [HC5.out.cell]; rfl
 have hq6 := HQ6.out _ _ w6 HA5.out (by have := HN5.out; omega)
 go_wp2_with fail
 refine hq6.mono ?_
 rintro e w7 ⟨rfl, v6, q6, ha6, he6, hn6, hk6⟩
 have HA6 := xhd ha6
 have HE6 := xhd he6
 have HN6 := xhd (show q6.length ≤ 6 from (by have := HN5.out; omega))
 have HC6 := xhd (HC5.out.keeps hk6 (fun e => e.2 rfl))
 clear ha6 he6 hn6 hk6 hq6 c5
 have c7 : w7.cell? ⟨cb, 7, none⟩ = some (.int .i64 c.mrru) := by rw [HC6.out.cell]; rfl
 have hq7 := HQ7.out _ _ w7 HA6.out (by have := HN6.out; omega)
 go_wp2_with fail
 refine hq7.mono ?_
 rintro e w8 ⟨rfl, v7, q7, ha7, he7, hn7, hk7⟩
 have HA7 := xhd ha7
 have HE7 := xhd he7
 have HN7 := xhd (show q7.length ≤ 7 from (by have := HN6.out; omega))
 have HC7 := xhd (HC6.out.keeps hk7 (fun e => e.2 rfl))
 clear ha7 he7 hn7 hk7 hq7 c7
 have c8 : w8.cell? ⟨cb, 8, none⟩ = some (.bool c.short) := by rw [HC7.out.cell]; rfl
 have c7 : w8.cell? ⟨cb, 7, none⟩ = some (.int .i64 c.mrru) := by rw [HC7.out.cell]; rfl
 have hlast : ∀ B, (c.short && (c.mrru != 0)) = B → Calls Tryz.prog 51 #[.bool B, .int .i64 18, .int .i64 0, .pointer (some ⟨cb + 1, 0, none⟩)] w8 fun e w' => e = .returned (.tuple #[]) ∧ ∃ v' qs', AVar w w' (cb + 1) (fun b => b = cb) v' qs' ∧ y02 qs' = y02 q7 ++ (if c.mrru = 0 then [] else if c.short then [(18, [])] else []) ∧ qs'.length ≤ q7.length + 1 ∧ Keeps (fun i => w.heap.size ≤ i ∧ ¬ i = cb) w8 w' := fun B hB => by
  rw [HL8.out, hB]
  exact HQ8.out B _ _ w8 HA7.out (by have := HN7.out; omega)
 have hLast := xhd hlast
 clear hlast
 have HFIN := xhd (show ∀ q : List (Value × Pure.Opt), y02 q = y02 q7 ++ (if c.mrru = 0 then [] else if c.short then [(18, [])] else []) → y02 q = c.ask m from fun q hq => by
  rw [hq, HE7.out, HE6.out, HE5.out, HE4.out, HE3.out, HE2.out, HE1.out]
  unfold Pure.Cfg.ask
  simp only [List.append_assoc, List.nil_append, List.map_nil, y02])
 clear HQ1 HQ2 HQ3 HQ4 HQ5 HQ6 HQ7 HL1 HL2 HL3 HL4 HL5 HL6 HL7
 by_cases hs : c.short = true
 ·rw [hs] at c8
  have h8 := hLast.out (c.mrru != 0) (by rw [hs]; rfl)
  go_wp2_with fail
  refine h8.mono ?_
  rintro e w9 ⟨rfl, v8, q8, ha8, he8, hn8, hk8⟩
  have HR := xhd ha8.row.read
  have HE8 := xhd (HFIN.out q8 he8)
  obtain ⟨A8, c88, rfl⟩ := y04 ha8.row.own
  have l0 : w9.cell? ⟨cb + 1, 0, none⟩ = some (.slice A8 q8.length c88) := by rw [ha8.blk.cell]; rfl
  clear ha8 he8 hn8 hk8 h8
  go_wp2_with fail
  go_ret
  exact ⟨_, q8, rfl, HE8.out, HR.out⟩
 ·have hs : c.short = false := by cases h : c.short; rfl; exact absurd h hs
  rw [hs] at c8
  have h8 := hLast.out false (by rw [hs]; rfl)
  go_wp2_with fail
  refine h8.mono ?_
  rintro e w9 ⟨rfl, v8, q8, ha8, he8, hn8, hk8⟩
  have HR := xhd ha8.row.read
  have HE8 := xhd (HFIN.out q8 he8)
  obtain ⟨A8, c88, rfl⟩ := y04 ha8.row.own
  have l0 : w9.cell? ⟨cb + 1, 0, none⟩ = some (.slice A8 q8.length c88) := by rw [ha8.blk.cell]; rfl
  clear ha8 he8 hn8 hk8 h8
  go_wp2_with fail
  go_ret
  exact ⟨_, q8, rfl, HE8.out, HR.out⟩
theorem run_data (t : Int) (v : Value) (w : World) : (Instr.field 31 (.agg #[.int .i64 t, v]) 1).run Tryz.prog w = .ok v w := by kernel_rfl
theorem y15 (b : Bool) (k : Int) (r : Pure.Rule) (D : Value) (L : List Pure.Rule) (hL : L = if b then [{ r with type := k, len := (Pure.psize k : Int) }] else []) (w0 : World) (lb : Nat) (P : Nat → Prop) (v : Value) (us : List (Value × Pure.Rule)) (w : World) (h : RVar w0 w lb P v us) (hq : us.length ≤ 100) (hone : D.oneCell' = true) (hD : Row w (fun b => P b) 1 D r.want.length (u8s r.want)) :
  Calls Tryz.prog 113 #[.bool b, .int .i64 k, ruleV (D, r), .pointer (some ⟨lb, 0, none⟩)] w fun e w' => e = .returned (.tuple #[]) ∧ ∃ v' us', RVar w0 w' lb P v' us' ∧ y0e us' = y0e us ++ L ∧ us'.length ≤ us.length + 1 ∧ Keeps (fun i => w0.heap.size ≤ i ∧ ¬ P i) w w' := by
 rw [hL]
 exact allow1_any b k r D w0 lb P v us w h hq hone hD
theorem y51 (c : Pure.Cfg) (nm sc : ByteArray) (w : World) :
  Calls Tryz.prog 64 #[cfgV c nm sc] w fun e w' => ∃ v, ∃ us : List (Value × Pure.Rule), e = .returned v ∧ y0e us = c.rules ∧ RRead w w' (fun b => w.heap.size ≤ b) v us := by
 obtain ⟨cb, hcb⟩ : ∃ q, q = w.heap.size := ⟨_, rfl⟩
 obtain ⟨w1, hw1⟩ : ∃ q, q = ((((w.alloc (.cells (y07 c nm sc).toArray 25)).alloc (.cells #[.slice none 0 0] 118)).alloc (.cells #[.int .i64 0, .int .i64 0, .int .i64 1, .int .i64 0, .int .i64 0, .slice none 0 0, .bool false] 122)).alloc (.cells #[.int .i64 0, .int .i64 0, .int .i64 2, .int .i64 64, .int .i64 1500, .slice none 0 0, .bool false] 122)) := ⟨_, rfl⟩
 have hk1 : Keeps y01 w w1 := by rw [hw1]; exact ((((Keeps.refl _ w).alloc _).alloc _).alloc _).alloc _
 have hs1 : w1.heap.size = cb + 4 := by rw [hw1, hcb]; simp
 have hC : Blk w1 cb 25 (y07 c nm sc).toArray := by rw [hw1, hcb]; exact (((Blk.new w _ _).alloc _).alloc _).alloc _
 have hL : Blk w1 (cb + 1) 118 #[.slice none 0 0] := by
  rw [hw1, show cb + 1 = (w.alloc (.cells (y07 c nm sc).toArray 25)).heap.size by rw [hcb]; simp]
  exact ((Blk.new _ _ _).alloc _).alloc _
 have hF : Blk w1 (cb + 1 + 1) 122 #[.int .i64 0, .int .i64 0, .int .i64 1, .int .i64 0, .int .i64 0, .slice none 0 0, .bool false] := by
  rw [hw1, show cb + 1 + 1 = ((w.alloc (.cells (y07 c nm sc).toArray 25)).alloc (.cells #[.slice none 0 0] 118)).heap.size by rw [hcb]; simp]
  exact (Blk.new _ _ _).alloc _
 have hU : Blk w1 (cb + 1 + 1 + 1) 122 #[.int .i64 0, .int .i64 0, .int .i64 2, .int .i64 64, .int .i64 1500, .slice none 0 0, .bool false] := by
  rw [hw1, show cb + 1 + 1 + 1 = (((w.alloc (.cells (y07 c nm sc).toArray 25)).alloc (.cells #[.slice none 0 0] 118)).alloc (.cells #[.int .i64 0, .int .i64 0, .int .i64 1, .int .i64 0, .int .i64 0, .slice none 0 0, .bool false] 122)).heap.size by rw [hcb]; simp]
  exact Blk.new _ _ _
 have HOP := xhd (show Calls Tryz.prog 52 #[.int .i64 3, .int .i64 12723073] w1 fun e w' => ∃ A c, e = .returned (.agg #[.int .i64 3, .slice A 3 c]) ∧ Row w' (fun b => w1.heap.size ≤ b) 1 (.slice A 3 c) 3 (u8s Pure.proofData) ∧ Keeps y01 w1 w' from y46 3 12723073 (by decide) w1)
 have HC1 := xhd hC
 have HL1 := xhd hL
 have HF1 := xhd hF
 have HU1 := xhd hU
 have HK1 := xhd hk1
 have HS1 := xhd hs1
 have HCB := xhd hcb
 clear hk1 hs1 hC hL hF hU
 go_enter Tryz.func64, Tryz.ntmps64
 go_upto_region 5 with fail
 rw [← hcb, ← hw1]
 clear hw1 hcb
 go_wp2_with fail
 refine HOP.out.mono ?_
 rintro e w2 ⟨AD, cD, rfl, hD, hk2⟩
 have hsz2 := hk2.size
 have hfld := run_data 3 (.slice AD 3 cD) w2
 go_upto_region 6 with fail
 obtain ⟨pb, hpb⟩ : ∃ q, q = w2.heap.size := ⟨_, rfl⟩
 obtain ⟨wa, hwa⟩ : ∃ q, q = w2.alloc (.cells #[.int .i64 0, .int .i64 0, .int .i64 3, .int .i64 0, .int .i64 0, .slice AD 3 cD, .bool true] 122) := ⟨_, rfl⟩
 rw [← hpb, ← hwa]
 have hka : Keeps y01 w2 wa := by rw [hwa]; exact (Keeps.refl _ w2).alloc _
 have hsa : wa.heap.size = pb + 1 := by rw [hwa, hpb]; simp
 have HPa := xhd (show Blk wa pb 122 #[.int .i64 0, .int .i64 0, .int .i64 3, .int .i64 0, .int .i64 0, .slice AD 3 cD, .bool true] by rw [hwa, hpb]; exact Blk.new w2 _ _)
 have hk2a := hk2.trans hka
 have HCa := xhd (HC1.out.keeps hk2a (fun e => e))
 have HFa := xhd (HF1.out.keeps hk2a (fun e => e))
 have HUa := xhd (HU1.out.keeps hk2a (fun e => e))
 obtain ⟨P, hP⟩ : ∃ P : Nat → Prop, P = fun b => b = cb ∨ b = cb + 1 + 1 ∨ b = cb + 1 + 1 + 1 ∨ b = pb ∨ (w1.heap.size ≤ b ∧ b < pb) := ⟨_, rfl⟩
 have HPC := xhd (show P cb by rw [hP]; exact .inl rfl)
 have HPF := xhd (show P (cb + 1 + 1) by rw [hP]; exact .inr (.inl rfl))
 have HPU := xhd (show P (cb + 1 + 1 + 1) by rw [hP]; exact .inr (.inr (.inl rfl)))
 have HPP := xhd (show P pb by rw [hP]; exact .inr (.inr (.inr (.inl rfl))))
 have HPG := xhd (show ∀ b, P b → w.heap.size ≤ b from fun b hb => by
  rw [hP] at hb
  have h1 := HCB.out
  have h2 := HS1.out
  rcases hb with h | h | h | h | h <;> omega)
 have HDa := xhd (show Row wa (fun b => P b) 1 (.slice AD 3 cD) (Pure.proofRule).want.length (u8s (Pure.proofRule).want) from ((hD.strongN (by omega)).keeps hka (fun _ _ e => e)).mono (fun b hb => by rw [hP]; exact .inr (.inr (.inr (.inr ⟨hb.1, by omega⟩)))))
 have HAa := xhd (show RVar w wa (cb + 1) P (.slice none 0 0) [] from ⟨⟨World.ownsRow_nil _ _ _ _, by simp, HK1.out.trans hk2a⟩, fun b e => (by cases e), by have := HCB.out; omega, fun b hb => by
  rw [hP] at hb
  have h2 := HS1.out
  rcases hb with h | h | h | h | h <;> omega, HL1.out.keeps hk2a (fun e => e)⟩)
 clear hfld hD hk2 hsz2 hpb hwa hka hsa hk2a hP HC1 HL1 HF1 HU1 HOP
 have hq1 := y15 true 1 ⟨0, 0, 2, 64, 1500, [], false⟩ (.slice none 0 0) [Pure.rangeOf 1] (rfl) w (cb + 1) P _ [] wa HAa.out (by simp) rfl (Row.nil _ _ _)
 have r0 : wa.cell? ⟨cb + 1 + 1 + 1, 0, none⟩ = some (.int .i64 0) := by rw [HUa.out.cell]; rfl
 have r1 : wa.cell? ⟨cb + 1 + 1 + 1, 1, none⟩ = some (.int .i64 0) := by rw [HUa.out.cell]; rfl
 have r2 : wa.cell? ⟨cb + 1 + 1 + 1, 2, none⟩ = some (.int .i64 2) := by rw [HUa.out.cell]; rfl
 have r3 : wa.cell? ⟨cb + 1 + 1 + 1, 3, none⟩ = some (.int .i64 64) := by rw [HUa.out.cell]; rfl
 have r4 : wa.cell? ⟨cb + 1 + 1 + 1, 4, none⟩ = some (.int .i64 1500) := by rw [HUa.out.cell]; rfl
 have r5 : wa.cell? ⟨cb + 1 + 1 + 1, 5, none⟩ = some (.slice none 0 0) := by rw [HUa.out.cell]; rfl
 have r6 : wa.cell? ⟨cb + 1 + 1 + 1, 6, none⟩ = some (.bool false) := by rw [HUa.out.cell]; rfl
 go_wp2_with fail
 refine hq1.mono ?_
 rintro e x1 ⟨rfl, v1, q1, ha1, he1, hn1, hk1⟩
 have HA1 := xhd ha1
 have HE1 := xhd he1
 have HN1 := xhd (show q1.length ≤ 1 from (by simpa using hn1))
 have HC1 := xhd (HCa.out.keeps hk1 (fun e => e.2 HPC.out))
 have HF1 := xhd (HFa.out.keeps hk1 (fun e => e.2 HPF.out))
 have HU1 := xhd (HUa.out.keeps hk1 (fun e => e.2 HPU.out))
 have HP1 := xhd (HPa.out.keeps hk1 (fun e => e.2 HPP.out))
 have HD1 := xhd (HDa.out.keeps hk1 (fun b hb e => e.2 hb))
 clear ha1 he1 hn1 hk1 hq1  r0 r1 r2 r3 r4 r5 r6 HAa HCa HFa HUa HPa HDa
 have hq2 := y15 true 2 ⟨0, 0, 1, 0, 0, [], false⟩ (.slice none 0 0) [Pure.passOf 2 4] (rfl) w (cb + 1) P _ q1 x1 HA1.out (by have := HN1.out; omega) rfl (Row.nil _ _ _)
 have r0 : x1.cell? ⟨cb + 1 + 1, 0, none⟩ = some (.int .i64 0) := by rw [HF1.out.cell]; rfl
 have r1 : x1.cell? ⟨cb + 1 + 1, 1, none⟩ = some (.int .i64 0) := by rw [HF1.out.cell]; rfl
 have r2 : x1.cell? ⟨cb + 1 + 1, 2, none⟩ = some (.int .i64 1) := by rw [HF1.out.cell]; rfl
 have r3 : x1.cell? ⟨cb + 1 + 1, 3, none⟩ = some (.int .i64 0) := by rw [HF1.out.cell]; rfl
 have r4 : x1.cell? ⟨cb + 1 + 1, 4, none⟩ = some (.int .i64 0) := by rw [HF1.out.cell]; rfl
 have r5 : x1.cell? ⟨cb + 1 + 1, 5, none⟩ = some (.slice none 0 0) := by rw [HF1.out.cell]; rfl
 have r6 : x1.cell? ⟨cb + 1 + 1, 6, none⟩ = some (.bool false) := by rw [HF1.out.cell]; rfl
 go_wp2_with fail
 refine hq2.mono ?_
 rintro e x2 ⟨rfl, v2, q2, ha2, he2, hn2, hk2⟩
 have HA2 := xhd ha2
 have HE2 := xhd he2
 have HN2 := xhd (show q2.length ≤ 2 from (by have := HN1.out; omega))
 have HC2 := xhd (HC1.out.keeps hk2 (fun e => e.2 HPC.out))
 have HF2 := xhd (HF1.out.keeps hk2 (fun e => e.2 HPF.out))
 have HU2 := xhd (HU1.out.keeps hk2 (fun e => e.2 HPU.out))
 have HP2 := xhd (HP1.out.keeps hk2 (fun e => e.2 HPP.out))
 have HD2 := xhd (HD1.out.keeps hk2 (fun b hb e => e.2 hb))
 clear ha2 he2 hn2 hk2 hq2  r0 r1 r2 r3 r4 r5 r6 HA1 HC1 HF1 HU1 HP1 HD1
 have hq3 := y15 (!c.server) 3 ⟨0, 0, 3, 0, 0, Pure.proofData, true⟩ (.slice AD 3 cD) (if c.server then [] else [Pure.proofRule]) (by cases c.server <;> rfl) w (cb + 1) P _ q2 x2 HA2.out (by have := HN2.out; omega) rfl HD2.out
 have c0 : x2.cell? ⟨cb, 0, none⟩ = some (.bool c.server) := by rw [HC2.out.cell]; rfl
 have r0 : x2.cell? ⟨pb, 0, none⟩ = some (.int .i64 0) := by rw [HP2.out.cell]; rfl
 have r1 : x2.cell? ⟨pb, 1, none⟩ = some (.int .i64 0) := by rw [HP2.out.cell]; rfl
 have r2 : x2.cell? ⟨pb, 2, none⟩ = some (.int .i64 3) := by rw [HP2.out.cell]; rfl
 have r3 : x2.cell? ⟨pb, 3, none⟩ = some (.int .i64 0) := by rw [HP2.out.cell]; rfl
 have r4 : x2.cell? ⟨pb, 4, none⟩ = some (.int .i64 0) := by rw [HP2.out.cell]; rfl
 have r5 : x2.cell? ⟨pb, 5, none⟩ = some (.slice AD 3 cD) := by rw [HP2.out.cell]; rfl
 have r6 : x2.cell? ⟨pb, 6, none⟩ = some (.bool true) := by rw [HP2.out.cell]; rfl
 go_wp2_with fail
 refine hq3.mono ?_
 rintro e x3 ⟨rfl, v3, q3, ha3, he3, hn3, hk3⟩
 have HA3 := xhd ha3
 have HE3 := xhd he3
 have HN3 := xhd (show q3.length ≤ 3 from (by have := HN2.out; omega))
 have HC3 := xhd (HC2.out.keeps hk3 (fun e => e.2 HPC.out))
 have HF3 := xhd (HF2.out.keeps hk3 (fun e => e.2 HPF.out))
 have HU3 := xhd (HU2.out.keeps hk3 (fun e => e.2 HPU.out))
 have HP3 := xhd (HP2.out.keeps hk3 (fun e => e.2 HPP.out))
 have HD3 := xhd (HD2.out.keeps hk3 (fun b hb e => e.2 hb))
 clear ha3 he3 hn3 hk3 hq3 c0 r0 r1 r2 r3 r4 r5 r6 HA2 HC2 HF2 HU2 HP2 HD2
 have hq4 := y15 true 5 ⟨0, 0, 1, 0, 0, [], false⟩ (.slice none 0 0) [Pure.passOf 5 4] (rfl) w (cb + 1) P _ q3 x3 HA3.out (by have := HN3.out; omega) rfl (Row.nil _ _ _)
 have r0 : x3.cell? ⟨cb + 1 + 1, 0, none⟩ = some (.int .i64 0) := by rw [HF3.out.cell]; rfl
 have r1 : x3.cell? ⟨cb + 1 + 1, 1, none⟩ = some (.int .i64 0) := by rw [HF3.out.cell]; rfl
 have r2 : x3.cell? ⟨cb + 1 + 1, 2, none⟩ = some (.int .i64 1) := by rw [HF3.out.cell]; rfl
 have r3 : x3.cell? ⟨cb + 1 + 1, 3, none⟩ = some (.int .i64 0) := by rw [HF3.out.cell]; rfl
 have r4 : x3.cell? ⟨cb + 1 + 1, 4, none⟩ = some (.int .i64 0) := by rw [HF3.out.cell]; rfl
 have r5 : x3.cell? ⟨cb + 1 + 1, 5, none⟩ = some (.slice none 0 0) := by rw [HF3.out.cell]; rfl
 have r6 : x3.cell? ⟨cb + 1 + 1, 6, none⟩ = some (.bool false) := by rw [HF3.out.cell]; rfl
 go_wp2_with fail
 refine hq4.mono ?_
 rintro e x4 ⟨rfl, v4, q4, ha4, he4, hn4, hk4⟩
 have HA4 := xhd ha4
 have HE4 := xhd he4
 have HN4 := xhd (show q4.length ≤ 4 from (by have := HN3.out; omega))
 have HC4 := xhd (HC3.out.keeps hk4 (fun e => e.2 HPC.out))
 have HF4 := xhd (HF3.out.keeps hk4 (fun e => e.2 HPF.out))
 have HU4 := xhd (HU3.out.keeps hk4 (fun e => e.2 HPU.out))
 have HP4 := xhd (HP3.out.keeps hk4 (fun e => e.2 HPP.out))
 have HD4 := xhd (HD3.out.keeps hk4 (fun b hb e => e.2 hb))
 clear ha4 he4 hn4 hk4 hq4  r0 r1 r2 r3 r4 r5 r6 HA3 HC3 HF3 HU3 HP3 HD3
 have hq5 := y15 c.pfc 7 ⟨0, 0, 1, 0, 0, [], false⟩ (.slice none 0 0) (if c.pfc then [Pure.passOf 7 0] else []) (by cases c.pfc <;> rfl) w (cb + 1) P _ q4 x4 HA4.out (by have := HN4.out; omega) rfl (Row.nil _ _ _)
 have c4 : x4.cell? ⟨cb, 4, none⟩ = some (.bool c.pfc) := by rw [HC4.out.cell]; rfl
 have r0 : x4.cell? ⟨cb + 1 + 1, 0, none⟩ = some (.int .i64 0) := by rw [HF4.out.cell]; rfl
 have r1 : x4.cell? ⟨cb + 1 + 1, 1, none⟩ = some (.int .i64 0) := by rw [HF4.out.cell]; rfl
 have r2 : x4.cell? ⟨cb + 1 + 1, 2, none⟩ = some (.int .i64 1) := by rw [HF4.out.cell]; rfl
 have r3 : x4.cell? ⟨cb + 1 + 1, 3, none⟩ = some (.int .i64 0) := by rw [HF4.out.cell]; rfl
 have r4 : x4.cell? ⟨cb + 1 + 1, 4, none⟩ = some (.int .i64 0) := by rw [HF4.out.cell]; rfl
 have r5 : x4.cell? ⟨cb + 1 + 1, 5, none⟩ = some (.slice none 0 0) := by rw [HF4.out.cell]; rfl
 have r6 : x4.cell? ⟨cb + 1 + 1, 6, none⟩ = some (.bool false) := by rw [HF4.out.cell]; rfl
 go_wp2_with fail
 refine hq5.mono ?_
 rintro e x5 ⟨rfl, v5, q5, ha5, he5, hn5, hk5⟩
 have HA5 := xhd ha5
 have HE5 := xhd he5
 have HN5 := xhd (show q5.length ≤ 5 from (by have := HN4.out; omega))
 have HC5 := xhd (HC4.out.keeps hk5 (fun e => e.2 HPC.out))
 have HF5 := xhd (HF4.out.keeps hk5 (fun e => e.2 HPF.out))
 have HU5 := xhd (HU4.out.keeps hk5 (fun e => e.2 HPU.out))
 have HP5 := xhd (HP4.out.keeps hk5 (fun e => e.2 HPP.out))
 have HD5 := xhd (HD4.out.keeps hk5 (fun b hb e => e.2 hb))
 clear ha5 he5 hn5 hk5 hq5 c4 r0 r1 r2 r3 r4 r5 r6 HA4 HC4 HF4 HU4 HP4 HD4
 have hq6 := y15 c.acfc 8 ⟨0, 0, 1, 0, 0, [], false⟩ (.slice none 0 0) (if c.acfc then [Pure.passOf 8 0] else []) (by cases c.acfc <;> rfl) w (cb + 1) P _ q5 x5 HA5.out (by have := HN5.out; omega) rfl (Row.nil _ _ _)
 have c5 : x5.cell? ⟨cb, 5, none⟩ = some (.bool c.acfc) := by rw [HC5.out.cell]; rfl
 have r0 : x5.cell? ⟨cb + 1 + 1, 0, none⟩ = some (.int .i64 0) := by rw [HF5.out.cell]; rfl
 have r1 : x5.cell? ⟨cb + 1 + 1, 1, none⟩ = some (.int .i64 0) := by rw [HF5.out.cell]; rfl
 have r2 : x5.cell? ⟨cb + 1 + 1, 2, none⟩ = some (.int .i64 1) := by rw [HF5.out.cell]; rfl
 have r3 : x5.cell? ⟨cb + 1 + 1, 3, none⟩ = some (.int .i64 0) := by rw [HF5.out.cell]; rfl
 have r4 : x5.cell? ⟨cb + 1 + 1, 4, none⟩ = some (.int .i64 0) := by rw [HF5.out.cell]; rfl
 have r5 : x5.cell? ⟨cb + 1 + 1, 5, none⟩ = some (.slice none 0 0) := by rw [HF5.out.cell]; rfl
 have r6 : x5.cell? ⟨cb + 1 + 1, 6, none⟩ = some (.bool false) := by rw [HF5.out.cell]; rfl
 go_wp2_with fail
 refine hq6.mono ?_
 rintro e x6 ⟨rfl, v6, q6, ha6, he6, hn6, hk6⟩
 have HA6 := xhd ha6
 have HE6 := xhd he6
 have HN6 := xhd (show q6.length ≤ 6 from (by have := HN5.out; omega))
 have HC6 := xhd (HC5.out.keeps hk6 (fun e => e.2 HPC.out))
 have HF6 := xhd (HF5.out.keeps hk6 (fun e => e.2 HPF.out))
 have HU6 := xhd (HU5.out.keeps hk6 (fun e => e.2 HPU.out))
 have HP6 := xhd (HP5.out.keeps hk6 (fun e => e.2 HPP.out))
 have HD6 := xhd (HD5.out.keeps hk6 (fun b hb e => e.2 hb))
 clear ha6 he6 hn6 hk6 hq6 c5 r0 r1 r2 r3 r4 r5 r6 HA5 HC5 HF5 HU5 HP5 HD5
 have hq7 := y15 (c.mrru != 0) 17 ⟨0, 0, 2, 64, 1500, [], false⟩ (.slice none 0 0) (if c.mrru = 0 then [] else [Pure.rangeOf 17]) (by by_cases h : c.mrru = 0 <;> simp [h, Pure.rangeOf, Pure.psize]) w (cb + 1) P _ q6 x6 HA6.out (by have := HN6.out; omega) rfl (Row.nil _ _ _)
 have c7 : x6.cell? ⟨cb, 7, none⟩ = some (.int .i64 c.mrru) := by rw [HC6.out.cell]; rfl
 have r0 : x6.cell? ⟨cb + 1 + 1 + 1, 0, none⟩ = some (.int .i64 0) := by rw [HU6.out.cell]; rfl
 have r1 : x6.cell? ⟨cb + 1 + 1 + 1, 1, none⟩ = some (.int .i64 0) := by rw [HU6.out.cell]; rfl
 have r2 : x6.cell? ⟨cb + 1 + 1 + 1, 2, none⟩ = some (.int .i64 2) := by rw [HU6.out.cell]; rfl
 have r3 : x6.cell? ⟨cb + 1 + 1 + 1, 3, none⟩ = some (.int .i64 64) := by rw [HU6.out.cell]; rfl
 have r4 : x6.cell? ⟨cb + 1 + 1 + 1, 4, none⟩ = some (.int .i64 1500) := by rw [HU6.out.cell]; rfl
 have r5 : x6.cell? ⟨cb + 1 + 1 + 1, 5, none⟩ = some (.slice none 0 0) := by rw [HU6.out.cell]; rfl
 have r6 : x6.cell? ⟨cb + 1 + 1 + 1, 6, none⟩ = some (.bool false) := by rw [HU6.out.cell]; rfl
 go_wp2_with fail
 refine hq7.mono ?_
 rintro e x7 ⟨rfl, v7, q7, ha7, he7, hn7, hk7⟩
 have HA7 := xhd ha7
 have HE7 := xhd he7
 have HN7 := xhd (show q7.length ≤ 7 from (by have := HN6.out; omega))
 have HC7 := xhd (HC6.out.keeps hk7 (fun e => e.2 HPC.out))
 have HF7 := xhd (HF6.out.keeps hk7 (fun e => e.2 HPF.out))
 have HU7 := xhd (HU6.out.keeps hk7 (fun e => e.2 HPU.out))
 have HP7 := xhd (HP6.out.keeps hk7 (fun e => e.2 HPP.out))
 have HD7 := xhd (HD6.out.keeps hk7 (fun b hb e => e.2 hb))
 clear ha7 he7 hn7 hk7 hq7 c7 r0 r1 r2 r3 r4 r5 r6 HA6 HC6 HF6 HU6 HP6 HD6
 have hq8 := y15 (c.mrru != 0) 18 ⟨0, 0, 1, 0, 0, [], false⟩ (.slice none 0 0) (if c.mrru = 0 then [] else [Pure.passOf 18 0]) (by by_cases h : c.mrru = 0 <;> simp [h, Pure.passOf, Pure.psize]) w (cb + 1) P _ q7 x7 HA7.out (by have := HN7.out; omega) rfl (Row.nil _ _ _)
 have c7 : x7.cell? ⟨cb, 7, none⟩ = some (.int .i64 c.mrru) := by rw [HC7.out.cell]; rfl
 have r0 : x7.cell? ⟨cb + 1 + 1, 0, none⟩ = some (.int .i64 0) := by rw [HF7.out.cell]; rfl
 have r1 : x7.cell? ⟨cb + 1 + 1, 1, none⟩ = some (.int .i64 0) := by rw [HF7.out.cell]; rfl
 have r2 : x7.cell? ⟨cb + 1 + 1, 2, none⟩ = some (.int .i64 1) := by rw [HF7.out.cell]; rfl
 have r3 : x7.cell? ⟨cb + 1 + 1, 3, none⟩ = some (.int .i64 0) := by rw [HF7.out.cell]; rfl
 have r4 : x7.cell? ⟨cb + 1 + 1, 4, none⟩ = some (.int .i64 0) := by rw [HF7.out.cell]; rfl
 have r5 : x7.cell? ⟨cb + 1 + 1, 5, none⟩ = some (.slice none 0 0) := by rw [HF7.out.cell]; rfl
 have r6 : x7.cell? ⟨cb + 1 + 1, 6, none⟩ = some (.bool false) := by rw [HF7.out.cell]; rfl
 go_wp2_with fail
 refine hq8.mono ?_
 rintro e x8 ⟨rfl, v8, q8, ha8, he8, hn8, hk8⟩
 have HA8 := xhd ha8
 have HE8 := xhd he8
 have HN8 := xhd (show q8.length ≤ 8 from (by have := HN7.out; omega))
 have HC8 := xhd (HC7.out.keeps hk8 (fun e => e.2 HPC.out))
 have HF8 := xhd (HF7.out.keeps hk8 (fun e => e.2 HPF.out))
 have HU8 := xhd (HU7.out.keeps hk8 (fun e => e.2 HPU.out))
 have HP8 := xhd (HP7.out.keeps hk8 (fun e => e.2 HPP.out))
 have HD8 := xhd (HD7.out.keeps hk8 (fun b hb e => e.2 hb))
 clear ha8 he8 hn8 hk8 hq8 c7 r0 r1 r2 r3 r4 r5 r6 HA7 HC7 HF7 HU7 HP7 HD7
 have HFIN := xhd (show y0e q8 = c.rules by
  rw [HE8.out, HE7.out, HE6.out, HE5.out, HE4.out, HE3.out, HE2.out, HE1.out]
  unfold Pure.Cfg.rules
  by_cases h : c.mrru = 0
  ·simp [h, y0e]
  ·simp [h, y0e])
 obtain ⟨A8, c8, rfl⟩ := y04 HA8.out.row.own
 have l0 : x8.cell? ⟨cb + 1, 0, none⟩ = some (.slice A8 q8.length c8) := by rw [HA8.out.blk.cell]; rfl
 have HR := xhd (show RRead w x8 (fun b => w.heap.size ≤ b) (.slice A8 q8.length c8) q8 from ⟨HA8.out.row.own, fun p hp => (HA8.out.row.rows p hp).mono (fun b hb => ⟨HPG.out b hb.1, hb.2⟩), HA8.out.row.kept⟩)
 go_wp2_with fail
 go_ret
 exact ⟨_, q8, rfl, HFIN.out, HR.out⟩
end Go.Proofs.YtmgicbckgpdkcaaGreatDoor
