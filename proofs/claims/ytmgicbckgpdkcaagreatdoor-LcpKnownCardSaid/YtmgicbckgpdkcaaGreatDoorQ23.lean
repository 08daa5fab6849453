/- A slice of packets, as a walk meets it. -/
import Derived.Test.YtmgicbckgpdkcaaGreatDoorQ2
import Derived.Test.YtmgicbckgpdkcaaGreatDoorQ13
import Derived.Test.YtmgicbckgpdkcaaGreatDoorQ15
import Derived.Test.YtmgicbckgpdkcaaGreatDoorQ22
namespace Go.Proofs.YtmgicbckgpdkcaaGreatDoor
set_option maxRecDepth 100000
set_option maxHeartbeats 4000000
open Lib renaming hid → xhd
open List renaming setIfInBounds_toArray → xqA, getElem_toArray → xqB, getElem_cons_succ → xqC, getElem_cons_zero → xqD, set_cons_succ → xqE, set_cons_zero → xqF
open Go.RowKit
abbrev pktCells (p : Value × Pure.Pkt) : List Value := [.int .i64 p.2.code, .int .i64 p.2.id, p.1]
abbrev pktsCells (ps : List (Value × Pure.Pkt)) : List Value := ps.flatMap pktCells
theorem pktsCells_at (ps : List (Value × Pure.Pkt)) (k j : Nat) (p : Value × Pure.Pkt) (h : ps[k]? = some p) (hj : j < 3) : (pktsCells ps)[k * 3 + j]? = (pktCells p)[j]? := flat_at pktCells 3 (fun _ => rfl) ps k j p h hj
structure PRow (w : World) (F : Nat → Prop) (x : Value) (ps : List (Value × Pure.Pkt)) : Prop where
 out : Row w F 3 x ps.length (pktsCells ps)
 rows : ∀ p ∈ ps, Row w F 1 p.1 p.2.data.length (u8s p.2.data)
theorem PRow.keeps {S F : Nat → Prop} {w w' : World} {x : Value} {ps : List (Value × Pure.Pkt)} (h : PRow w F x ps) (k : Keeps S w w') (hs : ∀ b, F b → ¬ S b) : PRow w' F x ps :=
 ⟨h.out.keeps k hs, fun p hp => (h.rows p hp).keeps k hs⟩
theorem PRow.mono {F G : Nat → Prop} {w : World} {x : Value} {ps : List (Value × Pure.Pkt)} (h : PRow w F x ps) (hG : ∀ b, F b → G b) : PRow w G x ps :=
 ⟨h.out.mono hG, fun p hp => (h.rows p hp).mono hG⟩
theorem PRow.nil (w : World) (F : Nat → Prop) : PRow w F (.slice none 0 0) [] := ⟨Row.nil _ _ _, by simp⟩
theorem PRow.form {w : World} {F : Nat → Prop} {x : Value} {ps : List (Value × Pure.Pkt)} (h : PRow w F x ps) : ∃ A c, x = .slice A ps.length c ∧ ps.length ≤ c := by
 obtain ⟨_, _, A, c, rfl, hc, _⟩ := h.out
 exact ⟨A, c, rfl, hc⟩
theorem PRow.pick {w : World} {F : Nat → Prop} {X : Option Addr} {n cx : Nat} {ps : List (Value × Pure.Pkt)} (h : PRow w F (.slice X n cx) ps) (k : Nat) (hk : k < ps.length) :
  ∃ p o A c q, X = some ⟨p, o, none⟩ ∧ F p ∧ (∀ j u, (pktCells (.slice A q.data.length c, q))[j]? = some u → w.cell? ⟨p, o + k * 3 + j, none⟩ = some u) ∧ Row w F 1 (.slice A q.data.length c) q.data.length (u8s q.data) ∧ ps[k]? = some (.slice A q.data.length c, q) := by
 obtain ⟨_, _, A', c', e, _, _, hh⟩ := h.out
 obtain ⟨p, o, rfl, hF, hc⟩ := hh (by omega)
 injection e with e1 _ _
 have hget := List.getElem?_eq_getElem hk
 have hr := h.rows ps[k] (List.getElem_mem hk)
 obtain ⟨A, c, hform, _⟩ := hr.form
 refine ⟨p, o, A, c, ps[k].2, e1, hF, fun j u hu => ?_, by rw [← hform]; exact hr, by rw [hget, ← hform]⟩
 rw [← hform] at hu
 have hj : j < 3 := (List.getElem?_eq_some_iff.1 hu).1
 rw [Nat.add_assoc]
 exact hc (k * 3 + j) u ((pktsCells_at ps k j _ hget hj).trans hu)
theorem packet_info : (Tryz.prog.info? 56).map (fun i => (i.zero, i.size, i.bytes)) = some (some (.agg #[.int .i64 0, .int .i64 0, .slice none 0 0]), 3, 40) := by kernel_rfl
structure PSent (w0 w : World) (v : Value) (ps : List (Value × Pure.Pkt)) : Prop where
 own : w.ownsRow w0.heap.size 56 3 v ps.length (pktsCells ps)
 rows : ∀ p ∈ ps, Row w (fun b => w0.heap.size ≤ b ∧ v.ownBlock ≠ some b ∧ b < w.heap.size) 1 p.1 p.2.data.length (u8s p.2.data)
 size : w0.heap.size ≤ w.heap.size
theorem PSent.keeps {w0 w w' : World} {v : Value} {ps : List (Value × Pure.Pkt)} (h : PSent w0 w v ps) (k : Keeps nobody w w') : PSent w0 w' v ps :=
 ⟨ownsRow_keeps h.own k (fun _ _ h => h), fun p hp => ((h.rows p hp).keeps k (fun _ _ h => h)).mono (fun _ hb => ⟨hb.1, hb.2.1, Nat.lt_of_lt_of_le hb.2.2 k.size⟩), Nat.le_trans h.size k.size⟩
theorem PSent.other {w0 w w' : World} {S : Nat → Prop} {v : Value} {ps : List (Value × Pure.Pkt)} (h : PSent w0 w v ps) (k : Keeps S w w') (hS : ∀ b, S b → b < w0.heap.size) : PSent w0 w' v ps :=
 ⟨ownsRow_keeps h.own k (fun g hg hs => by have := hS g hs; have := ownsRow_ge h.own g hg; omega), fun p hp => ((h.rows p hp).keeps k (fun b hb hs => by have := hS b hs; omega)).mono (fun _ hb => ⟨hb.1, hb.2.1, Nat.lt_of_lt_of_le hb.2.2 k.size⟩), Nat.le_trans h.size k.size⟩
theorem PSent.far {w0 w w' : World} {g : Nat} {v : Value} {ps : List (Value × Pure.Pkt)} (h : PSent w0 w v ps) (k : Keeps (only g) w w') (hv : v.ownBlock ≠ some g) (hd : ∀ p ∈ ps, Row w (fun b => b ≠ g) 1 p.1 p.2.data.length (u8s p.2.data)) : PSent w0 w' v ps := by
 refine ⟨ownsRow_keeps h.own k (fun q hq e => hv (by have e : q = g := e; rw [← e]; exact hq)), fun p hp => ?_, Nat.le_trans h.size k.size⟩
 obtain ⟨h1, h0, A, c, e, h3, h4, h5⟩ := h.rows p hp
 obtain ⟨_, _, A', c', e', _, _, h5'⟩ := hd p hp
 refine ⟨h1, h0, A, c, e, h3, h4, fun hn => ?_⟩
 obtain ⟨b, off, ea, hb, hc⟩ := h5 hn
 obtain ⟨b', off', ea', hb', _⟩ := h5' hn
 rw [e] at e'
 injection e' with e1 _ _
 rw [ea, ea'] at e1
 injection e1 with e1
 injection e1 with e1 e2
 subst e1
 exact ⟨b, off, ea, ⟨hb.1, hb.2.1, Nat.lt_of_lt_of_le hb.2.2 k.size⟩, fun j u hu => (World.cell?_of_block (w := w) (a := ⟨b, off + j, none⟩) (k.block b hb.2.2 hb')).trans (hc j u hu)⟩
theorem PSent.nil (w : World) : PSent w w (.slice none 0 0) [] := ⟨World.ownsRow_nil _ _ _ _, by simp, Nat.le_refl _⟩
theorem PSent.row {w0 w : World} {v : Value} {ps : List (Value × Pure.Pkt)} (h : PSent w0 w v ps) : PRow w (fun b => w0.heap.size ≤ b ∧ b < w.heap.size) v ps :=
 ⟨(Row.of_own h.own).mono (fun b hb => ⟨ownsRow_ge h.own b hb, ownsRow_lt h.own b hb⟩), fun p hp => (h.rows p hp).mono (fun _ hb => ⟨hb.1, hb.2.2⟩)⟩
theorem kept_cell {S : Nat → Prop} {w w' : World} {b off : Nat} {u : Value} (k : Keeps S w w') (h : w.cell? ⟨b, off, none⟩ = some u) (hb : ¬ S b) : w'.cell? ⟨b, off, none⟩ = some u :=
 (World.cell?_of_block (w := w) (a := ⟨b, off, none⟩) (k.block b (cell_lt h) hb)).trans h
theorem Row.drew {w : World} {F : Nat → Prop} {size : Nat} {v : Value} {n : Nat} {xs : List Value} (h : Row w F size v n xs) : Row w.drew F size v n xs := h
theorem pktsCells_one (ps : List (Value × Pure.Pkt)) (h : ∀ p ∈ ps, p.1.oneCell' = true) : ∀ u ∈ pktsCells ps, u.oneCell' = true := by
 intro u hu
 obtain ⟨p, hp, hu⟩ := List.mem_flatMap.1 hu
 simp at hu
 rcases hu with rfl | rfl | rfl
 ·rfl
 ·rfl
 ·exact h p hp
section
variable {w0 w : World} {o : Oper} {a : Act} {Q : Exit → Act → World → Prop}
theorem wpo_append_pkt {K : Act → World → Prop} (s x : Operand) (ho : o.op = .call { callee := .builtin .append, args := #[s, x], argTypes := #[57, 57] })
  (v : Value) (qs : List (Value × Pure.Pkt)) (A3 : Option Addr) (c3 : Nat) (p : Pure.Pkt) (hs : a.eval s = v) (hx : a.eval x = .slice (some ⟨w.heap.size, 0, none⟩) 1 1) (hR : PSent w0 w v qs) (hq : qs.length ≤ 1000000)
  (hd : Row w (fun b => w0.heap.size ≤ b ∧ v.ownBlock ≠ some b ∧ b < w.heap.size) 1 (.slice A3 p.data.length c3) p.data.length (u8s p.data))
  (h : ∀ A c w', PSent w0 w' (.slice A (qs.length + 1) c) (qs ++ [(.slice A3 p.data.length c3, p)]) → Keeps (fun b => v.ownBlock = some b) w w' → (∀ b, (Value.slice A (qs.length + 1) c).ownBlock = some b → v.ownBlock = some b ∨ w.heap.size ≤ b) → K (a.put o.dst (.slice A (qs.length + 1) c)) w') :
  o.wp Tryz.prog a (w.alloc (.cells #[.int .i64 p.code, .int .i64 p.id, .slice A3 p.data.length c3] 56)) K Q := by
 obtain ⟨i0, hi0, hz0, hz1, hz2⟩ := info_parts packet_info
 obtain ⟨wb, hwb⟩ : ∃ wb, wb = w.alloc (.cells (pktsCells [(.slice A3 p.data.length c3, p)]).toArray 56) := ⟨_, rfl⟩
 have hwb' : w.alloc (.cells #[.int .i64 p.code, .int .i64 p.id, .slice A3 p.data.length c3] 56) = wb := hwb.symm
 rw [hwb']
 have hkb : Keeps nobody w wb := by rw [hwb]; exact (Keeps.refl _ w).alloc _
 have hbb : Blk wb w.heap.size 56 (pktsCells [(.slice A3 p.data.length c3, p)]).toArray := by rw [hwb]; exact Blk.new w _ _
 have hrb : Row wb (fun b => b = w.heap.size) 3 (.slice (some ⟨w.heap.size, 0, none⟩) 1 1) 1 (pktsCells [(.slice A3 p.data.length c3, p)]) := by
  have h := Row.block (F := fun b => b = w.heap.size) (n := 1) (c := 1) (size := 3) hbb rfl rfl (by unfold maxLen; omega) (Nat.le_refl _)
  exact h
 have hownb : wb.ownsRow w0.heap.size 56 3 v qs.length (pktsCells qs) := ownsRow_keeps hR.own hkb (fun _ _ h => h)
 have hone : ∀ q ∈ ([(.slice A3 p.data.length c3, p)] : List (Value × Pure.Pkt)), q.1.oneCell' = true := by
  intro q hq
  simp at hq
  subst hq
  rfl
 refine wp_append_row s x _ ho w0.heap.size 56 i0 _ 3 40 Tryz.underlying57 hi0 hz0 hz1 hz2 rfl (by omega) v _ (pktsCells qs) hs hownb _ _ 1 (pktsCells [(.slice A3 p.data.length c3, p)]) hx hrb (pktsCells_one _ hone) (by unfold maxLen; omega) (by omega) (Nat.le_trans hR.size hkb.size) ?_
 intro v3 w3 hown3 hg3 hat3
 have hcat : pktsCells qs ++ pktsCells [(.slice A3 p.data.length c3, p)] = pktsCells (qs ++ [(.slice A3 p.data.length c3, p)]) := by simp [pktsCells]
 rw [hcat] at hown3
 have hkw : Keeps (fun b => v.ownBlock = some b) wb w3 := (Keeps.refl _ wb).grown hg3 (fun k hk _ => hk)
 have hwbs : w.heap.size < wb.heap.size := by rw [hwb]; simp
 have hread : PSent w0 w3 v3 (qs ++ [(.slice A3 p.data.length c3, p)]) := by
  refine ⟨by rw [List.length_append]; exact hown3, fun q hq => ?_, Nat.le_trans (Nat.le_trans hR.size hkb.size) hkw.size⟩
  have hrow : Row w (fun b => w0.heap.size ≤ b ∧ v.ownBlock ≠ some b ∧ b < w.heap.size) 1 q.1 q.2.data.length (u8s q.2.data) := by
   rcases List.mem_append.1 hq with hq | hq
   ·exact hR.rows q hq
   ·simp at hq
    subst hq
    exact hd
  have h1 := (hrow.keeps hkb (fun _ _ h => h)).keeps hkw (fun b hb => hb.2.1)
  refine h1.mono (fun b hb => ⟨hb.1, ?_, by have := hkw.size; omega⟩)
  rcases hat3 with e | e
  ·rw [e]; exact hb.2.1
  ·rw [e]; intro h; injection h with h; omega
 obtain ⟨A4, c4, rfl⟩ := own_form hown3
 refine h A4 c4 w3 hread ((hkb.mono (fun _ h => h.elim)).trans hkw) (fun b hb => ?_)
 rcases hat3 with e | e
 ·exact .inl (e ▸ hb)
 ·rw [e] at hb; injection hb with hb; exact .inr (by omega)
end
theorem send_any (go : Nat) (w0 w : World) (sv d : Value) (ps : List (Value × Pure.Pkt)) (p : Pure.Pkt) (up dn st dne : Bool) (hO : Blk w go 59 #[sv, .bool up, .bool dn, .bool st, .bool dne]) (hps : PSent w0 w sv ps) (hgo : go < w0.heap.size) (hq : ps.length ≤ 1000)
  (hd : Row w (fun b => w0.heap.size ≤ b ∧ sv.ownBlock ≠ some b ∧ b < w.heap.size) 1 d p.data.length (u8s p.data)) :
  Calls Tryz.prog 160 #[.pointer (some ⟨go, 0, none⟩), pktV p d] w fun e w' => e = .returned (.tuple #[]) ∧ ∃ sv', Blk w' go 59 #[sv', .bool up, .bool dn, .bool st, .bool dne] ∧ PSent w0 w' sv' (ps ++ [(d, p)]) ∧ (∀ b, sv'.ownBlock = some b → sv.ownBlock = some b ∨ w.heap.size ≤ b) ∧ Keeps (fun b => b = go ∨ sv.ownBlock = some b) w w' := by
 obtain ⟨A2, c2, rfl⟩ := own_form hps.own
 obtain ⟨A3, c3, rfl, _⟩ := hd.form
 obtain ⟨rp, hrp⟩ : ∃ r, r = w.heap.size := ⟨_, rfl⟩
 have hown := hps.own
 go_enter Tryz.func160, Tryz.ntmps160
 go_upto_region 1 with fail
 rw [← hrp]
 generalize hw1 : w.alloc _ = w1
 have hk1 : Keeps nobody w w1 := by rw [← hw1]; exact (Keeps.refl _ w).alloc _
 have hP : Blk w1 rp 56 #[.int .i64 p.code, .int .i64 p.id, .slice A3 p.data.length c3] := by rw [← hw1, hrp]; exact Blk.new w _ _
 have hO1 := hO.keeps hk1 (fun h => h)
 have HC := xhd (show w1.cell? ⟨go, 0, none⟩ = some (.slice A2 ps.length c2) ∧ w1.cell? ⟨rp, 0, none⟩ = some (.int .i64 p.code) ∧ w1.cell? ⟨rp, 1, none⟩ = some (.int .i64 p.id) ∧ w1.cell? ⟨rp, 2, none⟩ = some (.slice A3 p.data.length c3) from ⟨by rw [hO1.cell]; rfl, by rw [hP.cell]; rfl, by rw [hP.cell]; rfl, by rw [hP.cell]; rfl⟩)
 have HO := xhd hO1
 have HPS := xhd (hps.keeps hk1)
 have HD := xhd ((hd.keeps hk1 (fun _ _ h => h)).mono (G := fun b => w0.heap.size ≤ b ∧ (Value.slice A2 ps.length c2).ownBlock ≠ some b ∧ b < w1.heap.size) (fun b hb => ⟨hb.1, hb.2.1, Nat.lt_of_lt_of_le hb.2.2 hk1.size⟩))
 have HGO := xhd (show ¬ (Value.slice A2 ps.length c2).ownBlock = some go from fun e => by have := ownsRow_ge hown go e; omega)
 have HGP := xhd (show ¬ (Value.slice A2 ps.length c2).ownBlock = some rp from fun e => by have := ownsRow_lt hown rp e; omega)
 have HLT := xhd hgo
 have HKR := xhd hk1
 have HKZ0 := xhd (Keeps.refl nobody w1)
 clear hw1 hk1 hP hO1 hO hps hd hown hgo hrp
 refine wp_region_Z (fun w' => w'.cell? ⟨go, 0, none⟩ = some (.slice A2 ps.length c2) ∧ w'.cell? ⟨rp, 0, none⟩ = some (.int .i64 p.code) ∧ w'.cell? ⟨rp, 1, none⟩ = some (.int .i64 p.id) ∧ w'.cell? ⟨rp, 2, none⟩ = some (.slice A3 p.data.length c3)) 10 11 rfl (by kernel_rfl) ⟨HC.out.1, HC.out.2.1, HC.out.2.2.1, HC.out.2.2.2⟩ (fun hHeld => ?_)
 have HSW := hHeld
 clear hHeld
 have HK0d := xhd (HKZ0.out.drew)
 refine wpAnyZ_take (i := 0) rfl (by kernel_rfl) (fun _ _ _ h => h) (Or.inl ⟨by rfl, by intro w hSw; obtain ⟨s0, s1, s2, s3⟩ := hSw; go_simp; try with_reducible rfl⟩) HSW.out ?_
 simp only [Act.put, xqA, xqB, xqD, xqE, xqF]
 refine wpAnyZ_take (i := 1) rfl (by kernel_rfl) (fun _ _ _ h => h) (Or.inl ⟨by rfl, by intro w hSw; obtain ⟨s0, s1, s2, s3⟩ := hSw; go_simp; try with_reducible rfl⟩) HSW.out ?_
 simp only [Act.put, xqA, xqB, xqC, xqD, xqE, xqF]
 refine wpAnyZ_take (i := 2) rfl (by kernel_rfl) (fun _ _ _ h => h) (Or.inl ⟨by rfl, by intro w hSw; obtain ⟨s0, s1, s2, s3⟩ := hSw; go_simp; try with_reducible rfl⟩) HSW.out ?_
 simp only [Act.put, xqA, xqB, xqC, xqD, xqE, xqF]
 refine wpAnyZ_take (i := 3) rfl (by kernel_rfl) (fun _ _ _ h => h) (Or.inl ⟨by rfl, by intro w hSw; obtain ⟨s0, s1, s2, s3⟩ := hSw; go_simp; try with_reducible rfl⟩) HSW.out ?_
 simp only [Act.put, xqA, xqB, xqC, xqD, xqE, xqF]
 refine wpAnyZ_take (i := 4) rfl (by kernel_rfl) (fun _ _ _ h => h) (Or.inl ⟨by rfl, by intro w hSw; obtain ⟨s0, s1, s2, s3⟩ := hSw; go_simp; try with_reducible rfl⟩) HSW.out ?_
 simp only [Act.put, xqA, xqB, xqC, xqD, xqE, xqF]
 refine wpAnyZ_take (i := 5) rfl (by kernel_rfl) (fun _ _ _ h => h) (Or.inl ⟨by rfl, by intro w hSw; obtain ⟨s0, s1, s2, s3⟩ := hSw; go_simp; try with_reducible rfl⟩) HSW.out ?_
 simp only [Act.put, xqA, xqB, xqC, xqD, xqE, xqF]
 refine wpAnyZ_one (i := 6) (by kernel_rfl) rfl (fun K hK => ?_)
 try rw [if_pos (by rfl)]
 go_simp
 have HSB := xhd (And.intro (opt_later (o := .cells #[.int .i64 p.code, .int .i64 p.id, .slice A3 p.data.length c3] 56) HSW.out.1) (And.intro (opt_later (o := .cells #[.int .i64 p.code, .int .i64 p.id, .slice A3 p.data.length c3] 56) HSW.out.2.1) (And.intro (opt_later (o := .cells #[.int .i64 p.code, .int .i64 p.id, .slice A3 p.data.length c3] 56) HSW.out.2.2.1) (opt_later (o := .cells #[.int .i64 p.code, .int .i64 p.id, .slice A3 p.data.length c3] 56) HSW.out.2.2.2))))
 refine hK.out _ _ (fun _ => HSB.out) ?_
 clear hK K
 try simp only [Act.put, xqA, Nat.reduceAdd, xqB, xqC, xqD, xqE, xqF]
 refine wpAnyZ_one (i := 7) (by kernel_rfl) rfl (fun K hK => ?_)
 rw [if_pos (by rfl)]
 refine wpo_append_pkt (w0 := w0) (w := w1.drew) (.tmp 8) (.tmp 10) rfl (.slice A2 ps.length c2) ps A3 c3 p rfl rfl (HPS.out.keeps HK0d.out) (by omega) (HD.out.drew) ?_
 intro A4 c4 w3 hps hkx hob
 have HOB := xhd hob
 clear hob
 have HPS3 := xhd hps
 have HKX := xhd hkx
 have HS3 := xhd (And.intro (kept_cell hkx HSW.out.1 HGO.out) (And.intro (kept_cell hkx HSW.out.2.1 HGP.out) (And.intro (kept_cell hkx HSW.out.2.2.1 HGP.out) (kept_cell hkx HSW.out.2.2.2 HGP.out))))
 clear hps hkx
 refine hK.out _ _ (fun _ => HS3.out) ?_
 clear hK K
 try simp only [Act.put, xqA, xqB, xqC, xqD, xqE, xqF]
 refine wpAnyZ_take (i := 8) rfl (by kernel_rfl) (fun _ _ _ h => h) (Or.inl ⟨by rfl, by intro w hSw; obtain ⟨s0, s1, s2, s3⟩ := hSw; go_simp; try with_reducible rfl⟩) HS3.out ?_
 simp only [Act.put, xqA, xqB, xqC, xqD, xqE, xqF]
 refine wpAnyZ_take (i := 9) rfl (by kernel_rfl) (fun _ _ _ h => h) (Or.inl ⟨by rfl, by intro w hSw; obtain ⟨s0, s1, s2, s3⟩ := hSw; go_simp; try with_reducible rfl⟩) HS3.out ?_
 simp only [Act.put, xqA, xqB, xqC, xqD, xqE, xqF]
 have hO3 := HO.out.keeps HK0d.out (fun h => h)
 have hO3 := hO3.keeps HKX.out HGO.out
 have f0 := hO3.frozen 0
 have o0 : w3.cell? ⟨go, 0, none⟩ = some (.slice A2 ps.length c2) := by rw [hO3.cell]; rfl
 have HZ := xhd (hO3.set 0 (.slice A4 (ps.length + 1) c4))
 have KG := (Keeps.refl (only go) w3).put 0 (.slice A4 (ps.length + 1) c4)
 have HPZ := xhd (HPS3.out.other KG (fun b e => by have e : b = go := e; rw [e]; exact HLT.out))
 have HKZ := xhd (((HKR.out.trans HK0d.out).mono (T := fun b => b = go ∨ (Value.slice A2 ps.length c2).ownBlock = some b) (fun _ h => h.elim)).trans ((HKX.out.mono (fun b h => .inr h)).trans (KG.mono (fun b h => .inl h))))
 clear hO3 KG
 refine wpAnyZ_one (i := 10) (by kernel_rfl) rfl (fun K hK => ?_)
 go_simp
 refine hK.out _ _ (fun h => absurd rfl h) ?_
 clear hK K
 refine wpAnyZ_done (by kernel_rfl) ?_ _
 go_wp2_with fail
 go_end0
 exact ⟨rfl, _, HZ.out, HPZ.out, fun b hb => (HOB.out b hb).imp (fun h => h) (fun h => Nat.le_trans HKR.out.size h), HKZ.out⟩
end Go.Proofs.YtmgicbckgpdkcaaGreatDoor
