/- Package nego: the packets that a call sends: send. -/
import Derived.Test.YtmgicbckgpdkcaaGreatDoorC15
namespace Go.Proofs.YtmgicbckgpdkcaaGreatDoor
set_option maxRecDepth 100000
set_option maxHeartbeats 4000000
open _root_.Go.Lib renaming hid → xhd
open List renaming setIfInBounds_toArray → xqA, getElem_toArray → xqB, getElem_cons_succ → xqC, getElem_cons_zero → xqD, set_cons_succ → xqE, set_cons_zero → xqF
open Go.RowKit
theorem y79 : (Tryz.prog.info? 56).map (fun i => (i.zero, i.size, i.bytes)) = some (some (.agg #[.int .i64 0, .int .i64 0, .slice none 0 0]), 3, 40) := by kernel_rfl
structure PSent (w0 w : World) (v : Value) (ps : List (Value × Pure.Pkt)) : Prop where
 own : w.ownsRow w0.heap.size 56 3 v ps.length (y0l ps)
 rows : ∀ p ∈ ps, Row w (fun b => w0.heap.size ≤ b ∧ v.ownBlock ≠ some b ∧ b < w.heap.size) 1 p.1 p.2.data.length (u8s p.2.data)
 size : w0.heap.size ≤ w.heap.size
theorem PSent.keeps {w0 w w' : World} {v : Value} {ps : List (Value × Pure.Pkt)} (h : PSent w0 w v ps) (k : Keeps y01 w w') : PSent w0 w' v ps :=
 ⟨y0o h.own k (fun _ _ h => h), fun p hp => ((h.rows p hp).keeps k (fun _ _ h => h)).mono (fun _ hb => ⟨hb.1, hb.2.1, Nat.lt_of_lt_of_le hb.2.2 k.size⟩), Nat.le_trans h.size k.size⟩
theorem PSent.other {w0 w w' : World} {S : Nat → Prop} {v : Value} {ps : List (Value × Pure.Pkt)} (h : PSent w0 w v ps) (k : Keeps S w w') (hS : ∀ b, S b → b < w0.heap.size) : PSent w0 w' v ps :=
 ⟨y0o h.own k (fun g hg hs => by have := hS g hs; have := y0f h.own g hg; omega), fun p hp => ((h.rows p hp).keeps k (fun b hb hs => by have := hS b hs; omega)).mono (fun _ hb => ⟨hb.1, hb.2.1, Nat.lt_of_lt_of_le hb.2.2 k.size⟩), Nat.le_trans h.size k.size⟩
theorem PSent.far {w0 w w' : World} {g : Nat} {v : Value} {ps : List (Value × Pure.Pkt)} (h : PSent w0 w v ps) (k : Keeps (only g) w w') (hv : v.ownBlock ≠ some g) (hd : ∀ p ∈ ps, Row w (fun b => b ≠ g) 1 p.1 p.2.data.length (u8s p.2.data)) : PSent w0 w' v ps := by
 refine ⟨y0o h.own k (fun q hq e => hv (by have e : q = g := e; rw [← e]; exact hq)), fun p hp => ?_, Nat.le_trans h.size k.size⟩
 obtain ⟨h1, h0, A, c, e, h3, h4, h5⟩ := h.rows p hp
 obtain ⟨_, _, A', c', e', _, _, h5'⟩ := hd p hp
 refine ⟨h1, h0, A, c, e, h3, h4, fun hn => ?_⟩
 obtain ⟨b, off, ea, hb, hc⟩ := h5 hn
 obtain ⟨b', off', ea', hb', _⟩ := h5' hn
 rw [e] at e'
 injection e' with e1 _ _
 rw [ea, ea'] at e1
 injection e1 with e1
 injection e1 with e1 e2
 subst e1
 exact ⟨b, off, ea, ⟨hb.1, hb.2.1, Nat.lt_of_lt_of_le hb.2.2 k.size⟩, fun j u hu => (World.cell?_of_block (w := w) (a := ⟨b, off + j, none⟩) (k.block b hb.2.2 hb')).trans (hc j u hu)⟩
theorem PSent.nil (w : World) : PSent w w (.slice none 0 0) [] := ⟨World.ownsRow_nil _ _ _ _, by simp, Nat.le_refl _⟩
theorem PSent.row {w0 w : World} {v : Value} {ps : List (Value × Pure.Pkt)} (h : PSent w0 w v ps) : PRow w (fun b => w0.heap.size ≤ b ∧ b < w.heap.size) v ps :=
 ⟨(Row.of_own h.own).mono (fun b hb => ⟨y0f h.own b hb, y12 h.own b hb⟩), fun p hp => (h.rows p hp).mono (fun _ hb => ⟨hb.1, hb.2.2⟩)⟩
theorem y1l {S : Nat → Prop} {w w' : World} {b off : Nat} {u : Value} (k : Keeps S w w') (h : w.cell? ⟨b, off, none⟩ = some u) (hb : ¬ S b) : w'.cell? ⟨b, off, none⟩ = some u :=
 (World.cell?_of_block (w := w) (a := ⟨b, off, none⟩) (k.block b (y0x h) hb)).trans h
theorem Row.drew {w : World} {F : Nat → Prop} {size : Nat} {v : Value} {n : Nat} {xs : List Value} (h : Row w F size v n xs) : Row w.drew F size v n xs := h
theorem yef (ps : List (Value × Pure.Pkt)) (h : ∀ p ∈ ps, p.1.oneCell' = true) : ∀ u ∈ y0l ps, u.oneCell' = true := by
 intro u hu
 obtain ⟨p, hp, hu⟩ := List.mem_flatMap.1 hu
 simp at hu
 rcases hu with rfl | rfl | rfl
 ·rfl
 ·rfl
 ·exact h p hp
section
variable {w0 w : World} {o : Oper} {a : Act} {Q : Exit → Act → World → Prop}
theorem yd9 {K : Act → World → Prop} (s x : Operand) (ho : o.op = .call { callee := .builtin .append, args := #[s, x], argTypes := #[57, 57] })
  (v : Value) (qs : List (Value × Pure.Pkt)) (A3 : Option Addr) (c3 : Nat) (p : Pure.Pkt) (hs : a.eval s = v) (hx : a.eval x = .slice (some ⟨w.heap.size, 0, none⟩) 1 1) (hR : PSent w0 w v qs) (hq : qs.length ≤ 1000000)
  (hd : Row w (fun b => w0.heap.size ≤ b ∧ v.ownBlock ≠ some b ∧ b < w.heap.size) 1 (.slice A3 p.data.length c3) p.data.length (u8s p.data))
  (h : ∀ A c w', PSent w0 w' (.slice A (qs.length + 1) c) (qs ++ [(.slice A3 p.data.length c3, p)]) → Keeps (fun b => v.ownBlock = some b) w w' → (∀ b, (Value.slice A (qs.length + 1) c).ownBlock = some b → v.ownBlock = some b ∨ w.heap.size ≤ b) → K (a.put o.dst (.slice A (qs.length + 1) c)) w') :
  o.wp Tryz.prog a (w.alloc (.cells #[.int .i64 p.code, .int .i64 p.id, .slice A3 p.data.length c3] 56)) K Q := by
 obtain ⟨i0, hi0, hz0, hz1, hz2⟩ := info_parts y79
 obtain ⟨wb, hwb⟩ : ∃ wb, wb = w.alloc (.cells (y0l [(.slice A3 p.data.length c3, p)]).toArray 56) := ⟨_, rfl⟩
 have hwb' : w.alloc (.cells #[.int .i64 p.code, .int .i64 p.id, .slice A3 p.data.length c3] 56) = wb := hwb.symm
 rw [hwb']
 have hkb : Keeps y01 w wb := by rw [hwb]; exact (Keeps.refl _ w).alloc _
 have hbb : Blk wb w.heap.size 56 (y0l [(.slice A3 p.data.length c3, p)]).toArray := by rw [hwb]; exact Blk.new w _ _
 have hrb : Row wb (fun b => b = w.heap.size) 3 (.slice (some ⟨w.heap.size, 0, none⟩) 1 1) 1 (y0l [(.slice A3 p.data.length c3, p)]) := by
  have h := Row.block (F := fun b => b = w.heap.size) (n := 1) (c := 1) (size := 3) hbb rfl rfl (by unfold maxLen; omega) (Nat.le_refl _)
  exact h
 have hownb : wb.ownsRow w0.heap.size 56 3 v qs.length (y0l qs) := y0o hR.own hkb (fun _ _ h => h)
 have hone : ∀ q ∈ ([(.slice A3 p.data.length c3, p)] : List (Value × Pure.Pkt)), q.1.oneCell' = true := by
  intro q hq
  simp at hq
  subst hq
  rfl
 refine y47 s x _ ho w0.heap.size 56 i0 _ 3 40 Tryz.underlying57 hi0 hz0 hz1 hz2 rfl (by omega) v _ (y0l qs) hs hownb _ _ 1 (y0l [(.slice A3 p.data.length c3, p)]) hx hrb (yef _ hone) (by unfold maxLen; omega) (by omega) (Nat.le_trans hR.size hkb.size) ?_
 intro v3 w3 hown3 hg3 hat3
 have hcat : y0l qs ++ y0l [(.slice A3 p.data.length c3, p)] = y0l (qs ++ [(.slice A3 p.data.length c3, p)]) := by simp [y0l]
 rw [hcat] at hown3
 have hkw : Keeps (fun b => v.ownBlock = some b) wb w3 := (Keeps.refl _ wb).grown hg3 (fun k hk _ => hk)
 have hwbs : w.heap.size < wb.heap.size := by rw [hwb]; simp
 have hread : PSent w0 w3 v3 (qs ++ [(.slice A3 p.data.length c3, p)]) := by
  refine ⟨by rw [List.length_append]; exact hown3, fun q hq => ?_, Nat.le_trans (Nat.le_trans hR.size hkb.size) hkw.size⟩
  have hrow : Row w (fun b => w0.heap.size ≤ b ∧ v.ownBlock ≠ some b ∧ b < w.heap.size) 1 q.1 q.2.data.length (u8s q.2.data) := by
   rcases List.mem_append.1 hq with hq | hq
   ·exact hR.rows q hq
   ·simp at hq
    subst hq
    exact hd
  have h1 := (hrow.keeps hkb (fun _ _ h => h)).keeps hkw (fun b hb => hb.2.1)
  refine h1.mono (fun b hb => ⟨hb.1, ?_, by have := hkw.size; omega⟩)
  rcases hat3 with e | e
  ·rw [e]; exact hb.2.1
  ·rw [e]; intro h; injection h with h; omega
 obtain ⟨A4, c4, rfl⟩ := y0c hown3
 refine h A4 c4 w3 hread ((hkb.mono (fun _ h => h.elim)).trans hkw) (fun b hb => ?_)
 rcases hat3 with e | e
 ·exact .inl (e ▸ hb)
 ·rw [e] at hb; injection hb with hb; exact .inr (by omega)
end
theorem send_any (go : Nat) (w0 w : World) (sv d : Value) (ps : List (Value × Pure.Pkt)) (p : Pure.Pkt) (up dn st dne : Bool) (hO : Blk w go 59 #[sv, .bool up, .bool dn, .bool st, .bool dne]) (hps : PSent w0 w sv ps) (hgo : go < w0.heap.size) (hq : ps.length ≤ 1000)
  (hd : Row w (fun b => w0.heap.size ≤ b ∧ sv.ownBlock ≠ some b ∧ b < w.heap.size) 1 d p.data.length (u8s p.data)) :
  Calls Tryz.prog 160 #[.pointer (some ⟨go, 0, none⟩), pktV p d] w fun e w' => e = .returned (.tuple #[]) ∧ ∃ sv', Blk w' go 59 #[sv', .bool up, .bool dn, .bool st, .bool dne] ∧ PSent w0 w' sv' (ps ++ [(d, p)]) ∧ (∀ b, sv'.ownBlock = some b → sv.ownBlock = some b ∨ w.heap.size ≤ b) ∧ Keeps (fun b => b = go ∨ sv.ownBlock = some b) w w' := by
 obtain ⟨A2, c2, rfl⟩ := y0c hps.own
 obtain ⟨A3, c3, rfl, _⟩ := hd.form
 obtain ⟨rp, hrp⟩ : ∃ r, r = w.heap.size := ⟨_, rfl⟩
 have hown := hps.own
 go_enter Tryz.func160, Tryz.ntmps160
 go_upto_region 1 with fail
 rw [← hrp]
 generalize hw1 : w.alloc _ = w1
 have hk1 : Keeps y01 w w1 := by rw [← hw1]; exact (Keeps.refl _ w).alloc _
 have hP : Blk w1 rp 56 #[.int .i64 p.code, .int .i64 p.id, .slice A3 p.data.length c3] := by rw [← hw1, hrp]; exact Blk.new w _ _
 have hO1 := hO.keeps hk1 (fun h => h)
 have HC := xhd (show w1.cell? ⟨go, 0, none⟩ = some (.slice A2 ps.length c2) ∧ w1.cell? ⟨rp, 0, none⟩ = some (.int .i64 p.code) ∧ w1.cell? ⟨rp, 1, none⟩ = some (.int .i64 p.id) ∧ w1.cell? ⟨rp, 2, none⟩ = some (.slice A3 p.data.length c3) from ⟨by rw [hO1.cell]; rfl, by rw [hP.cell]; rfl, by rw [hP.cell]; rfl, by rw [hP.cell]; rfl⟩)
 have HO := xhd hO1
 have HPS := xhd (hps.keeps hk1)
 have HD := xhd ((hd.keeps hk1 (fun _ _ h => h)).mono (G := fun b => w0.heap.size ≤ b ∧ (Value.slice A2 ps.length c2).ownBlock ≠ some b ∧ b < w1.heap.size) (fun b hb => ⟨hb.1, hb.2.1, Nat.lt_of_lt_of_le hb.2.2 hk1.size⟩))
 have HGO := xhd (show ¬ (Value.slice A2 ps.length c2).ownBlock = some go from fun e => by have := y0f hown go e; omega)
 have HGP := xhd (show ¬ (Value.slice A2 ps.length c2).ownBlock = some rp from fun e => by have := y12 hown rp e; omega)
 have HLT := xhd hgo
 have HKR := xhd hk1
 have HKZ0 := xhd (Keeps.refl y01 w1)
 clear hw1 hk1 hP hO1 hO hps hd hown hgo hrp
 refine y0b (fun w' => w'.cell? ⟨go, 0, none⟩ = some (.slice A2 ps.length c2) ∧ w'.cell? ⟨rp, 0, none⟩ = some (.int .i64 p.code) ∧ w'.cell? ⟨rp, 1, none⟩ = some (.int .i64 p.id) ∧ w'.cell? ⟨rp, 2, none⟩ = some (.slice A3 p.data.length c3)) 10 11 rfl (by kernel_rfl) ⟨HC.out.1, HC.out.2.1, HC.out.2.2.1, HC.out.2.2.2⟩ (fun hHeld => ?_)
 have HSW := hHeld
 clear hHeld
 have HK0d := xhd (HKZ0.out.drew)
 refine y00 (i := 0) rfl (by kernel_rfl) (fun _ _ _ h => h) (Or.inl ⟨by rfl, by intro w hSw; obtain ⟨s0, s1, s2, s3⟩ := hSw; go_simp; try with_reducible rfl⟩) HSW.out ?_
 simp only [Act.put, xqA, xqB, xqD, xqE, xqF]
 refine y00 (i := 1) rfl (by kernel_rfl) (fun _ _ _ h => h) (Or.inl ⟨by rfl, by intro w hSw; obtain ⟨s0, s1, s2, s3⟩ := hSw; go_simp; try with_reducible rfl⟩) HSW.out ?_
 simp only [Act.put, xqA, xqB, xqC, xqD, xqE, xqF]
 refine y00 (i := 2) rfl (by kernel_rfl) (fun _ _ _ h => h) (Or.inl ⟨by rfl, by intro w hSw; obtain ⟨s0, s1, s2, s3⟩ := hSw; go_simp; try with_reducible rfl⟩) HSW.out ?_
 simp only [Act.put, xqA, xqB, xqC, xqD, xqE, xqF]
 refine y00 (i := 3) rfl (by kernel_rfl) (fun _ _ _ h => h) (Or.inl ⟨by rfl, by intro w hSw; obtain ⟨s0, s1, s2, s3⟩ := hSw; go_simp; try with_reducible rfl⟩) HSW.out ?_
 simp only [Act.put, xqA, xqB, xqC, xqD, xqE, xqF]
 refine y00 (i := 4) rfl (by kernel_rfl) (fun _ _ _ h => h) (Or.inl ⟨by rfl, by intro w hSw; obtain ⟨s0, s1, s2, s3⟩ := hSw; go_simp; try with_reducible rfl⟩) HSW.out ?_
 simp only [Act.put, xqA, xqB, xqC, xqD, xqE, xqF]
 refine y00 (i := 5) rfl (by kernel_rfl) (fun _ _ _ h => h) (Or.inl ⟨by rfl, by intro w hSw; obtain ⟨s0, s1, s2, s3⟩ := hSw; go_simp; try with_reducible rfl⟩) HSW.out ?_
 simp only [Act.put, xqA, xqB, xqC, xqD, xqE, xqF]
 refine y03 (i := 6) (by kernel_rfl) rfl (fun K hK => ?_)
 try rw [if_pos (by rfl)]
 go_simp
 have HSB := xhd (And.intro (y36 (o := .cells #[.int .i64 p.code, .int .i64 p.id, .slice A3 p.data.length c3] 56) HSW.out.1) (And.intro (y36 (o := .cells #[.int .i64 p.code, .int .i64 p.id, .slice A3 p.data.length c3] 56) HSW.out.2.1) (And.intro (y36 (o := .cells #[.int .i64 p.code, .int .i64 p.id, .slice A3 p.data.length c3] 56) HSW.out.2.2.1) (y36 (o := .cells #[.int .i64 p.code, .int .i64 p.id, .slice A3 p.data.length c3] 56) HSW.out.2.2.2))))
 refine hK.out _ _ (fun _ => HSB.out) ?_
 clear hK K
 try simp only [Act.put, xqA, Nat.reduceAdd, xqB, xqC, xqD, xqE, xqF]
 refine y03 (i := 7) (by kernel_rfl) rfl (fun K hK => ?_)
 rw [if_pos (by rfl)]
 refine yd9 (w0 := w0) (w := w1.drew) (.tmp 8) (.tmp 10) rfl (.slice A2 ps.length c2) ps A3 c3 p rfl rfl (HPS.out.keeps HK0d.out) (by omega) (HD.out.drew) ?_
 intro A4 c4 w3 hps hkx hob
 have HOB := xhd hob
 clear hob
 have HPS3 := xhd hps
 have HKX := xhd hkx
 have HS3 := xhd (And.intro (y1l hkx HSW.out.1 HGO.out) (And.intro (y1l hkx HSW.out.2.1 HGP.out) (And.intro (y1l hkx HSW.out.2.2.1 HGP.out) (y1l hkx HSW.out.2.2.2 HGP.out))))
 clear hps hkx
 refine hK.out _ _ (fun _ => HS3.out) ?_
 clear hK K
 try simp only [Act.put, xqA, xqB, xqC, xqD, xqE, xqF]
 refine y00 (i := 8) rfl (by kernel_rfl) (fun _ _ _ h => h) (Or.inl ⟨by rfl, by intro w hSw; obtain ⟨s0, s1, s2, s3⟩ := hSw; go_simp; try with_reducible rfl⟩) HS3.out ?_
 simp only [Act.put, xqA, xqB, xqC, xqD, xqE, xqF]
 refine y00 (i := 9) rfl (by kernel_rfl) (fun _ _ _ h => h) (Or.inl ⟨by rfl, by intro w hSw; obtain ⟨s0, s1, s2, s3⟩ := hSw; go_simp; try with_reducible rfl⟩) HS3.out ?_
 simp only [Act.put, xqA, xqB, xqC, xqD, xqE, xqF]
 have hO3 := HO.out.keeps HK0d.out (fun h => h)
 have hO3 := hO3.keeps HKX.out HGO.out
 have f0 := hO3.frozen 0
 have o0 : w3.cell? ⟨go, 0, none⟩ = some (.slice A2 ps.length c2) := by rw [hO3.cell]; rfl
 have HZ := xhd (hO3.set 0 (.slice A4 (ps.length + 1) c4))
 have KG := (Keeps.refl (only go) w3).put 0 (.slice A4 (ps.length + 1) c4)
 have HPZ := xhd (HPS3.out.other KG (fun b e => by have e : b = go := e; rw [e]; exact HLT.out))
 have HKZ := xhd (((HKR.out.trans HK0d.out).mono (T := fun b => b = go ∨ (Value.slice A2 ps.length c2).ownBlock = some b) (fun _ h => h.elim)).trans ((HKX.out.mono (fun b h => .inr h)).trans (KG.mono (fun b h => .inl h))))
 clear hO3 KG
 refine y03 (i := 10) (by kernel_rfl) rfl (fun K hK => ?_)
 go_simp
 refine hK.out _ _ (fun h => absurd rfl h) ?_
 clear hK K
 refine y09 (by kernel_rfl) ?_ _
 go_wp2_with fail
 go_end0
 exact ⟨rfl, _, HZ.out, HPZ.out, fun b hb => (HOB.out b hb).imp (fun h => h) (fun h => Nat.le_trans HKR.out.size h), HKZ.out⟩
namespace Pure
def y16 (s : Neg × Said) : Option Reply → Neg × Said
 | none => s
 | some q => ({ s.1 with naks := if q.code = 3 then s.1.naks + 1 else s.1.naks, theirs := if q.code = 2 then q.l else s.1.theirs }, s.2.more ⟨q.code, q.p.id, (options q.l).2⟩)
def negActP (r : Option Reply) (s : Neg × Said) : Nat → Neg × Said
 | 0 => (s.1, { s.2 with up := true })
 | 1 => (s.1, { s.2 with down := true })
 | 2 => (s.1.again, { s.2 with start := true })
 | 3 => (s.1, { s.2 with done := true })
 | 6 => y60 s
 | 7 => y16 s r
 | 8 => y16 s r
 | 9 => sendOwn s 5 []
 | 10 => y40 s r
 | 11 => y3f s r
 | _ => s
def Neg.actsP (n : Neg) (l : List Nat) (r : Option Reply) : Neg × Said := l.foldl (negActP r) (n, mute)
structure Neg.Well (n : Neg) : Prop where
 good : n.m.Good
 tries : n.m.tries ≤ 1000
 timeout : n.m.timeout ≤ 1000
 id : n.id < 256
 first : Fine n.first
 request : Fine n.request
 asked : Fine (split n.ours).2
 ours : (options (split n.ours).2).2 = n.ours
theorem Fine.back {l : List Opt} (h : Fine l) : (split (options l).2).2 = l := by rw [y0e h]
end Pure
def Opts (w : World) (R : Nat → Prop) (v : Value) (l : List Pure.Opt) : Prop := ∃ zs, ORow w R v zs ∧ y02 zs = l ∧ FewOpts zs
theorem Opts.keeps {w w' : World} {R S : Nat → Prop} {v : Value} {l : List Pure.Opt} (h : Opts w R v l) (k : Keeps S w w') (hs : ∀ b, R b → ¬ S b) : Opts w' R v l := by
 obtain ⟨zs, h1, h2, h3⟩ := h
 exact ⟨zs, h1.keeps k hs, h2, h3⟩
theorem Opts.mono {w : World} {R G : Nat → Prop} {v : Value} {l : List Pure.Opt} (h : Opts w R v l) (hG : ∀ b, R b → G b) : Opts w G v l := by
 obtain ⟨zs, h1, h2, h3⟩ := h
 exact ⟨zs, h1.mono hG, h2, h3⟩
theorem Row.strongN {w : World} {F : Nat → Prop} {size : Nat} {v : Value} {n : Nat} {xs : List Value} (hs : 0 < size) (h : Row w F size v n xs) : Row w (fun b => F b ∧ b < w.heap.size) size v n xs := by
 obtain ⟨h1, h0, A, c, h2, h3, h4, h5⟩ := h
 refine ⟨h1, h0, A, c, h2, h3, h4, fun hn => ?_⟩
 obtain ⟨b, off, e, f, g⟩ := h5 hn
 have hl : 0 < xs.length := by rw [h1]; exact Nat.mul_pos hn hs
 exact ⟨b, off, e, ⟨f, y0x (g 0 _ (List.getElem?_eq_getElem hl))⟩, g⟩
theorem ORow.strong {w : World} {F : Nat → Prop} {v : Value} {zs : List (Value × Pure.Opt)} (h : ORow w F v zs) : ORow w (fun b => F b ∧ b < w.heap.size) v zs :=
 ⟨h.out.strongN (by omega), fun p hp => (h.rows p hp).strongN (by omega)⟩
theorem y2r {zs : List (Value × Pure.Opt)} (h : Pure.Fine (y02 zs)) : FewOpts zs := by
 refine ⟨by have := h.len; simp at this; omega, fun p hp => ?_⟩
 have := h.odd p.2 (List.mem_map.2 ⟨p, hp, rfl⟩)
 unfold Pure.Opt.odd at this
 omega
theorem Opts.of {w : World} {F : Nat → Prop} {v : Value} {zs : List (Value × Pure.Opt)} {l : List Pure.Opt} (h : ORow w F v zs) (he : y02 zs = l) (hf : Pure.Fine l) : Opts w F v l := ⟨zs, h, he, y2r (he ▸ hf)⟩
structure NObj (w : World) (g : Nat) (R : Nat → Prop) (f : NF) (n : Pure.Neg) : Prop where
 blk : NBlk w g f
 mach : y11 w f.gm n.m
 well : n.Well
 e1 : f.tries = n.m.tries
 e2 : f.id = n.id
 e3 : f.naks = n.naks
 e4 : f.aid = n.asked
 e5 : f.aopen = n.waits
 e6 : f.dropped = n.dropped
 rules : ∃ us, RRow w R f.rules us ∧ y08 us = n.rules ∧ FewRules us
 first : Opts w R f.first n.first
 request : Opts w R f.request n.request
 aopts : Opts w R f.aopts (Pure.split n.ours).2
 mine : Opts w R f.mine n.acked
 given : Opts w R f.given n.theirs
 lt : ∀ b, R b → b < w.heap.size
 ng : ¬ R g
 nm : ¬ R f.gm
 ne : g ≠ f.gm
theorem NObj.keeps {w w' : World} {g : Nat} {R S : Nat → Prop} {f : NF} {n : Pure.Neg} (h : NObj w g R f n) (k : Keeps S w w') (hg : ¬ S g) (hm : ¬ S f.gm) (hs : ∀ b, R b → ¬ S b) : NObj w' g R f n := by
 obtain ⟨us, r1, r2, r3⟩ := h.rules
 exact ⟨h.blk.keeps k hg, h.mach.keeps k hm, h.well, h.e1, h.e2, h.e3, h.e4, h.e5, h.e6, ⟨us, r1.keeps k hs, r2, r3⟩, h.first.keeps k hs, h.request.keeps k hs, h.aopts.keeps k hs, h.mine.keeps k hs, h.given.keeps k hs, fun b hb => Nat.lt_of_lt_of_le (h.lt b hb) k.size, h.ng, h.nm, h.ne⟩
def y1c (w w' : World) (R : Nat → Prop) : Nat → Prop := fun b => (R b ∨ w.heap.size ≤ b) ∧ b < w'.heap.size
theorem Opts.later {w w' : World} {R : Nat → Prop} {g : Nat} {v : Value} {l : List Pure.Opt} (h : Opts w R v l) (k : Keeps (only g) w w') (hg : ¬ R g) (lt : ∀ b, R b → b < w.heap.size) : Opts w' (y1c w w' R) v l :=
 (h.keeps k (fun b hb e => hg (by have e : b = g := e; exact e ▸ hb))).mono (fun b hb => ⟨.inl hb, Nat.lt_of_lt_of_le (lt b hb) k.size⟩)
theorem Opts.newer {w w' : World} {R : Nat → Prop} {v : Value} {zs : List (Value × Pure.Opt)} {l : List Pure.Opt} (h : ORow w' (fun b => w.heap.size ≤ b) v zs) (he : y02 zs = l) (hf : FewOpts zs) : Opts w' (y1c w w' R) v l :=
 ⟨zs, h.strong.mono (fun _ hb => ⟨.inr hb.1, hb.2⟩), he, hf⟩
theorem NObj.turn {w w' : World} {g : Nat} {R : Nat → Prop} {f f' : NF} {n n' : Pure.Neg} (h : NObj w g R f n) (k : Keeps (only g) w w') (hb : NBlk w' g f') (hw : n'.Well) (hgm : f'.gm = f.gm) (hm : n'.m = n.m) (hr : f'.rules = f.rules) (hrn : n'.rules = n.rules) (ht : f'.tries = f.tries)
  (e2 : f'.id = n'.id) (e3 : f'.naks = n'.naks) (e4 : f'.aid = n'.asked) (e5 : f'.aopen = n'.waits) (e6 : f'.dropped = n'.dropped)
  (first : Opts w' (y1c w w' R) f'.first n'.first) (request : Opts w' (y1c w w' R) f'.request n'.request) (aopts : Opts w' (y1c w w' R) f'.aopts (Pure.split n'.ours).2) (mine : Opts w' (y1c w w' R) f'.mine n'.acked) (given : Opts w' (y1c w w' R) f'.given n'.theirs) :
  NObj w' g (y1c w w' R) f' n' := by
 obtain ⟨us, r1, r2, r3⟩ := h.rules
 have hkR : ∀ b, R b → ¬ only g b := fun b hb e => h.ng (by have e : b = g := e; exact e ▸ hb)
 refine ⟨hb, ?_, hw, by rw [ht, h.e1, hm], e2, e3, e4, e5, e6, ⟨us, ?_, by rw [hrn]; exact r2, r3⟩, first, request, aopts, mine, given, fun b hb => hb.2, ?_, ?_, by rw [hgm]; exact h.ne⟩
 ·rw [hgm, hm]; exact h.mach.keeps k (fun e => h.ne (by have e : f.gm = g := e; exact e.symm))
 ·rw [hr]; exact (r1.keeps k hkR).mono (fun b hb => ⟨.inl hb, Nat.lt_of_lt_of_le (h.lt b hb) k.size⟩)
 ·rintro ⟨hb | hb, _⟩
  ·exact h.ng hb
  ·have := h.blk.lt; omega
 ·rw [hgm]
  rintro ⟨hb | hb, _⟩
  ·exact h.nm hb
  ·have := Blk.lt h.mach; omega
section
variable {w w' : World} {g : Nat} {R : Nat → Prop} {f : NF} {n : Pure.Neg}
theorem NObj.owned (h : NObj w g R f n) (k : Keeps (only g) w w') (hb : NBlk w' g { f with id := n.next }) : NObj w' g (y1c w w' R) { f with id := n.next } { n with id := n.next } := by
 have hw : ({ n with id := n.next } : Pure.Neg).Well := ⟨h.well.good, h.well.tries, h.well.timeout, Nat.mod_lt _ (by omega), h.well.first, h.well.request, h.well.asked, h.well.ours⟩
 exact h.turn k hb hw rfl rfl rfl rfl rfl rfl h.e3 h.e4 h.e5 h.e6 (h.first.later k h.ng h.lt) (h.request.later k h.ng h.lt) (h.aopts.later k h.ng h.lt) (h.mine.later k h.ng h.lt) (h.given.later k h.ng h.lt)
theorem NObj.same (h : NObj w g R f n) (k : Keeps (only g) w w') (hb : NBlk w' g f) : NObj w' g (y1c w w' R) f n :=
 h.turn k hb h.well rfl rfl rfl rfl rfl h.e2 h.e3 h.e4 h.e5 h.e6 (h.first.later k h.ng h.lt) (h.request.later k h.ng h.lt) (h.aopts.later k h.ng h.lt) (h.mine.later k h.ng h.lt) (h.given.later k h.ng h.lt)
theorem NObj.begun (h : NObj w g R f n) (k : Keeps (only g) w w') {u : Value} {qs : List (Value × Pure.Opt)} (hq : y02 qs = n.first) (hr : ORow w' (fun b => w.heap.size ≤ b) u qs) (hb : NBlk w' g { f with request := u, naks := 0 }) : NObj w' g (y1c w w' R) { f with request := u, naks := 0 } n.again := by
 have hw : n.again.Well := ⟨h.well.good, h.well.tries, h.well.timeout, h.well.id, h.well.first, h.well.first, h.well.asked, h.well.ours⟩
 exact h.turn k hb hw rfl rfl rfl rfl rfl h.e2 rfl h.e4 h.e5 h.e6 (h.first.later k h.ng h.lt) (Opts.newer hr hq (y2r (by rw [hq]; exact h.well.first))) (h.aopts.later k h.ng h.lt) (h.mine.later k h.ng h.lt) (h.given.later k h.ng h.lt)
theorem NObj.asks (h : NObj w g R f n) (k : Keeps (only g) w w') {u : Value} {qs : List (Value × Pure.Opt)} (hq : y02 qs = n.request) (hr : ORow w' (fun b => w.heap.size ≤ b) u qs) (hb : NBlk w' g { f with id := n.next, aid := n.next, aopts := u, aopen := true }) :
  NObj w' g (y1c w w' R) { f with id := n.next, aid := n.next, aopts := u, aopen := true } { n with ours := (Pure.options n.request).2, waits := true, id := n.next, asked := n.next } := by
 have hs := h.well.request.back
 have hw : ({ n with ours := (Pure.options n.request).2, waits := true, id := n.next, asked := n.next } : Pure.Neg).Well :=
  ⟨h.well.good, h.well.tries, h.well.timeout, Nat.mod_lt _ (by omega), h.well.first, h.well.request, by show Pure.Fine (Pure.split (Pure.options n.request).2).2; rw [hs]; exact h.well.request, by show (Pure.options (Pure.split (Pure.options n.request).2).2).2 = (Pure.options n.request).2; rw [hs]⟩
 refine h.turn k hb hw rfl rfl rfl rfl rfl rfl h.e3 rfl rfl h.e6 (h.first.later k h.ng h.lt) (h.request.later k h.ng h.lt) ?_ (h.mine.later k h.ng h.lt) (h.given.later k h.ng h.lt)
 show Opts w' _ u (Pure.split (Pure.options n.request).2).2
 rw [hs]
 exact Opts.newer hr hq (y2r (by rw [hq]; exact h.well.request))
theorem NObj.answers (h : NObj w g R f n) (k : Keeps (only g) w w') {q : Pure.Reply} {zs : List (Value × Pure.Opt)} {f' : NF} (hz : y02 zs = q.l) (hfz : FewOpts zs) (ha : AnsTo w w' f (q.code : Int) zs f') (hb : NBlk w' g f') :
  NObj w' g (y1c w w' R) f' { n with naks := if q.code = 3 then n.naks + 1 else n.naks, theirs := if q.code = 2 then q.l else n.theirs } ∧ f'.gm = f.gm := by
 have hw : ({ n with naks := if q.code = 3 then n.naks + 1 else n.naks, theirs := if q.code = 2 then q.l else n.theirs } : Pure.Neg).Well := ⟨h.well.good, h.well.tries, h.well.timeout, h.well.id, h.well.first, h.well.request, h.well.asked, h.well.ours⟩
 rcases ha with ⟨hc, u, qs, rfl, hq, hr⟩ | ⟨hc, rfl⟩ | ⟨h2, h3, rfl⟩
 ·have hc : q.code = 2 := by omega
  refine ⟨h.turn k hb hw rfl rfl rfl rfl rfl h.e2 ?_ h.e4 h.e5 h.e6 (h.first.later k h.ng h.lt) (h.request.later k h.ng h.lt) (h.aopts.later k h.ng h.lt) (h.mine.later k h.ng h.lt) ?_, rfl⟩
  ·show f.naks = if q.code = 3 then n.naks + 1 else n.naks
   rw [if_neg (by omega)]; exact h.e3
  ·show Opts w' _ u (if q.code = 2 then q.l else n.theirs)
   rw [if_pos hc]
   refine Opts.newer hr (hq.trans hz) ⟨?_, ?_⟩
   ·have := congrArg List.length hq
    simp at this
    rw [this]; exact hfz.len
   ·intro p hp
    have h1 : p.2 ∈ y02 zs := by rw [← hq]; exact List.mem_map.2 ⟨p, hp, rfl⟩
    obtain ⟨z, hz1, hz2⟩ := List.mem_map.1 h1
    rw [← hz2]; exact hfz.data z hz1
 ·have hc : q.code = 3 := by omega
  refine ⟨h.turn k hb hw rfl rfl rfl rfl rfl h.e2 ?_ h.e4 h.e5 h.e6 (h.first.later k h.ng h.lt) (h.request.later k h.ng h.lt) (h.aopts.later k h.ng h.lt) (h.mine.later k h.ng h.lt) ?_, rfl⟩
  ·show f.naks + 1 = if q.code = 3 then n.naks + 1 else n.naks
   rw [if_pos hc, h.e3]
  ·show Opts w' _ f.given (if q.code = 2 then q.l else n.theirs)
   rw [if_neg (by omega)]; exact h.given.later k h.ng h.lt
 ·refine ⟨h.turn k hb hw rfl rfl rfl rfl rfl h.e2 ?_ h.e4 h.e5 h.e6 (h.first.later k h.ng h.lt) (h.request.later k h.ng h.lt) (h.aopts.later k h.ng h.lt) (h.mine.later k h.ng h.lt) ?_, rfl⟩
  ·show f'.naks = if q.code = 3 then n.naks + 1 else n.naks
   rw [if_neg (by omega)]; exact h.e3
  ·show Opts w' _ f'.given (if q.code = 2 then q.l else n.theirs)
   rw [if_neg (by omega)]; exact h.given.later k h.ng h.lt
end
structure PI (w1 w : World) (g go : Nat) (R : Nat → Prop) (gm : GM) (s : Pure.Neg × Pure.Said) (m : Nat) (f : NF) (R' : Nat → Prop) (sv : Value) (ps : List (Value × Pure.Pkt)) : Prop where
 obj : NObj w g R' f s.1
 gm : f.gm = gm
 sub : ∀ b, R' b → R b ∨ w1.heap.size ≤ b
 out : Blk w go 59 #[sv, .bool s.2.up, .bool s.2.down, .bool s.2.start, .bool s.2.done]
 sent : PSent w1 w sv ps
 pkts : ps.map Prod.snd = s.2.send
 few : ps.length ≤ m
 apart : ∀ b, R' b → sv.ownBlock ≠ some b
 kept : Keeps (fun b => b = g ∨ b = go) w1 w
 naks : s.1.naks ≤ 1000 + m
structure PS (w1 : World) (g go : Nat) (R : Nat → Prop) (gm : GM) : Prop where
 g1 : g < w1.heap.size
 go1 : go < w1.heap.size
 gm1 : gm < w1.heap.size
 ne : g ≠ go
 nm : gm ≠ go
 nr : ¬ R go
section
variable {w1 w : World} {g go : Nat} {R R' : Nat → Prop} {m : Nat} {gm : GM} {s : Pure.Neg × Pure.Said} {f : NF} {sv : Value} {ps : List (Value × Pure.Pkt)}
theorem PI.sends (H : PS w1 g go R gm) (h : PI w1 w g go R gm s m f R' sv ps) {w2 : World} {f2 : NF} {n2 : Pure.Neg} (hobj : NObj w2 g (y1c w w2 R') f2 n2) (hgm : f2.gm = f.gm) (k2 : Keeps (only g) w w2) (p : Pure.Pkt) (d : Value)
  (hd : Row w2 (fun b => w.heap.size ≤ b) 1 d p.data.length (u8s p.data)) (hm : m ≤ 900) (hnk : n2.naks ≤ s.1.naks + 1) :
  Calls Tryz.prog 160 #[.pointer (some ⟨go, 0, none⟩), pktV p d] w2 fun e w' => e = .returned (.tuple #[]) ∧ ∃ sv' ps', PI w1 w' g go R gm (n2, s.2.more p) (m + 1) f2 (y1c w w2 R') sv' ps' := by
 have hgo : go ≠ g := fun e => H.ne e.symm
 have hsz := h.kept.size
 have hown := h.sent.own
 have g1 := H.g1
 have go1 := H.go1
 have gm1 := H.gm1
 have hs2 : PSent w1 w2 sv ps := h.sent.other k2 (fun b e => by have e : b = g := e; rw [e]; exact H.g1)
 have hd2 : Row w2 (fun b => w1.heap.size ≤ b ∧ sv.ownBlock ≠ some b ∧ b < w2.heap.size) 1 d p.data.length (u8s p.data) :=
  (hd.strongN (by omega)).mono (fun b hb => ⟨Nat.le_trans hsz hb.1, fun e => by have := y12 hown b e; have := hb.1; omega, hb.2⟩)
 refine (send_any go w1 w2 sv d ps p _ _ _ _ (h.out.keeps k2 (fun e => hgo e)) hs2 H.go1 (by have := h.few; omega) hd2).mono ?_
 rintro e w' ⟨rfl, sv', hO, hps, hob, hk⟩
 refine ⟨rfl, sv', ps ++ [(d, p)], ?_⟩
 have nogo : ∀ b, y1c w w2 R' b → b ≠ go := by
  rintro b ⟨hb | hb, _⟩ rfl
  ·rcases h.sub _ hb with hb | hb
   ·exact H.nr hb
   ·omega
  ·omega
 have noown : ∀ b, y1c w w2 R' b → sv.ownBlock ≠ some b := by
  rintro b ⟨hb | hb, _⟩ e
  ·exact h.apart b hb e
  ·have := y12 hown b e; omega
 have hng : ∀ b, b < w1.heap.size → b ≠ go → ¬ (b = go ∨ sv.ownBlock = some b) := by
  rintro b hb hn (e | e)
  ·exact hn e
  ·have := y0f hown b e; omega
 refine ⟨hobj.keeps hk (hng g g1 H.ne) ?_ ?_, by rw [hgm, h.gm], ?_, hO, hps, ?_, ?_, ?_, ?_, ?_⟩
 ·rw [hgm, h.gm]; exact hng gm gm1 H.nm
 ·rintro b hb (e | e)
  ·exact nogo b hb e
  ·exact noown b hb e
 ·rintro b ⟨hb | hb, _⟩
  ·exact h.sub b hb
  ·exact .inr (Nat.le_trans hsz hb)
 ·show (ps ++ [(d, p)]).map Prod.snd = s.2.send ++ [p]
  rw [List.map_append, h.pkts]; rfl
 ·rw [List.length_append]; have := h.few; simp; omega
 ·intro b hb e
  rcases hob b e with e | e
  ·exact noown b hb e
  ·have := hb.2; omega
 ·refine (h.kept.trans (k2.mono (fun b e => .inl e))).trans' hk ?_
  rintro b (e | e) hl
  ·exact .inr e
  ·have := y0f hown b e; omega
 ·have := h.naks; show n2.naks ≤ _; omega
theorem PI.flag (H : PS w1 g go R gm) (h : PI w1 w g go R gm s m f R' sv ps) (j : Nat) (up dn st dne : Bool) (hj : (#[sv, .bool s.2.up, .bool s.2.down, .bool s.2.start, .bool s.2.done] : Array Value).setIfInBounds j (.bool true) = #[sv, .bool up, .bool dn, .bool st, .bool dne]) :
  PI w1 (w.setCell ⟨go, j, none⟩ (.bool true)) g go R gm (s.1, ⟨s.2.send, up, dn, st, dne⟩) m f R' sv ps := by
 have k : Keeps (only go) w (w.setCell ⟨go, j, none⟩ (.bool true)) := (Keeps.refl (only go) w).put j _
 have hob := h.out.set j (.bool true)
 rw [hj] at hob
 have g1 := H.g1
 have go1 := H.go1
 refine ⟨h.obj.keeps k (fun e => H.ne e) ?_ ?_, h.gm, h.sub, hob, h.sent.other k (fun b e => by have e : b = go := e; rw [e]; exact go1), h.pkts, h.few, h.apart, h.kept.trans (k.mono (fun b e => .inr e)), h.naks⟩
 ·rw [h.gm]; exact fun e => H.nm e
 ·intro b hb e
  have e : b = go := e
  subst e
  rcases h.sub _ hb with hb | hb
  ·exact H.nr hb
  ·omega
theorem PI.turned (H : PS w1 g go R gm) (h : PI w1 w g go R gm s m f R' sv ps) {w2 : World} {f2 : NF} {n2 : Pure.Neg} (hobj : NObj w2 g (y1c w w2 R') f2 n2) (hgm : f2.gm = f.gm) (k2 : Keeps (only g) w w2) (hnk : n2.naks ≤ s.1.naks) :
  PI w1 w2 g go R gm (n2, s.2) m f2 (y1c w w2 R') sv ps := by
 have hsz := h.kept.size
 have hown := h.sent.own
 have g1 := H.g1
 have go1 := H.go1
 refine ⟨hobj, by rw [hgm, h.gm], ?_, h.out.keeps k2 (fun e => H.ne e.symm), h.sent.other k2 (fun b e => by have e : b = g := e; rw [e]; exact g1), h.pkts, h.few, ?_, h.kept.trans (k2.mono (fun b e => .inl e)), by have := h.naks; show n2.naks ≤ _; omega⟩
 ·rintro b ⟨hb | hb, _⟩
  ·exact h.sub b hb
  ·exact .inr (Nat.le_trans hsz hb)
 ·rintro b ⟨hb | hb, _⟩ e
  ·exact h.apart b hb e
  ·have := y12 hown b e; omega
end
end Go.Proofs.YtmgicbckgpdkcaaGreatDoor
