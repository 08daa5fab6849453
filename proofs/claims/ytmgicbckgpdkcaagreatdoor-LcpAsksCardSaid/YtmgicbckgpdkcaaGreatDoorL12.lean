/- A slice of options, as a walk meets it. -/
import Derived.Laws.BytesString
import Derived.Lib.BufferRead
import Derived.Test.YtmgicbckgpdkcaaGreatDoorL11
namespace Go.Proofs.YtmgicbckgpdkcaaGreatDoor
set_option maxRecDepth 100000
set_option maxHeartbeats 4000000
open _root_.Go.Lib renaming hid → xhd
open List renaming setIfInBounds_toArray → xqA, getElem_toArray → xqB, getElem_cons_succ → xqC, getElem_cons_zero → xqD, set_cons_succ → xqE, set_cons_zero → xqF
open Go.RowKit
abbrev y0j (ps : List (Value × Pure.Opt)) : List Value := ps.flatMap fun p => [.int .i64 p.2.1, p.1]
theorem y22 (ps : List (Value × Pure.Opt)) : (y0j ps).length = ps.length * 2 := by
 induction ps with
 | nil => rfl
 | cons p ps ih => rw [y0j, List.flatMap_cons, List.length_append, ih]; simp; omega
theorem y47 (ps : List (Value × Pure.Opt)) (k : Nat) (p : Value × Pure.Opt) (h : ps[k]? = some p) : (y0j ps)[2 * k]? = some (.int .i64 p.2.1) ∧ (y0j ps)[2 * k + 1]? = some p.1 := by
 induction ps generalizing k with
 | nil => simp at h
 | cons q ps ih =>
  rcases k with _ | k
  ·simp at h
   subst h
   exact ⟨rfl, rfl⟩
  ·have := ih k (by simpa using h)
   rw [y0j, List.flatMap_cons]
   rw [List.getElem?_append_right (by simp; omega), List.getElem?_append_right (by simp; omega)]
   simpa [Nat.mul_add, Nat.add_assoc] using this
structure ORow (w : World) (F : Nat → Prop) (x : Value) (ps : List (Value × Pure.Opt)) : Prop where
 out : Row w F 2 x ps.length (y0j ps)
 rows : ∀ p ∈ ps, Row w F 1 p.1 p.2.2.length (u8s p.2.2)
theorem ORow.keeps {S F : Nat → Prop} {w w' : World} {x : Value} {ps : List (Value × Pure.Opt)} (h : ORow w F x ps) (k : Keeps S w w') (hs : ∀ b, F b → ¬ S b) : ORow w' F x ps :=
 ⟨h.out.keeps k hs, fun p hp => (h.rows p hp).keeps k hs⟩
theorem ORow.mono {F G : Nat → Prop} {w : World} {x : Value} {ps : List (Value × Pure.Opt)} (h : ORow w F x ps) (hG : ∀ b, F b → G b) : ORow w G x ps :=
 ⟨h.out.mono hG, fun p hp => (h.rows p hp).mono hG⟩
theorem ORow.nil (w : World) (F : Nat → Prop) : ORow w F (.slice none 0 0) [] := ⟨Row.nil _ _ _, by simp⟩
theorem opts_of {w : World} {a : Option Addr} {len cap : Nat} (h : y2l w [.int .i64, .row .u8] a len cap) :
  ∃ ps : List (Value × Pure.Opt), ps.length = len ∧ ORow w (fun b => b < w.heap.size) (.slice a len cap) ps ∧ ∀ p ∈ ps, -9223372036854775808 ≤ p.2.1 ∧ p.2.1 ≤ 9223372036854775807 := by
 rcases h with ⟨rfl, rfl, rfl⟩ | ⟨x, rfl, hl, hm, hi⟩
 ·exact ⟨[], rfl, ORow.nil _ _, by simp⟩
 ·obtain ⟨ps, hpl, hps⟩ := y45 (P := fun i (d : Value × Pure.Opt) => w.cell? (x.add (i * 2)) = some (.int .i64 d.2.1) ∧ w.cell? (x.add (i * 2 + 1)) = some d.1 ∧ Row w (fun b => b < w.heap.size) 1 d.1 d.2.2.length (u8s d.2.2) ∧ (-9223372036854775808 ≤ d.2.1 ∧ d.2.1 ≤ 9223372036854775807)) len (fun i hil => by
   obtain ⟨u, hu, n, rfl, hn⟩ := hi i hil 0 _ rfl
   obtain ⟨v, hv, a', l', c', zs, rfl, hr⟩ := hi i hil 1 _ rfl
   obtain ⟨bs, hbl, hrow⟩ := hr.bytes
   refine ⟨(.slice a' l' c', n, bs), by simpa using hu, by simpa using hv, ?_, i64_of_wf hn⟩
   rw [← hbl] at hrow ⊢
   exact hrow)
  refine ⟨ps, hpl, ⟨⟨by rw [y22], by omega, some x, cap, by rw [hpl], by omega, by simp, fun h0 => ?_⟩, fun p hp => ?_⟩, fun p hp => ?_⟩
  ·have h1 := (hps 0 ps[0] (List.getElem?_eq_getElem h0)).1
   obtain ⟨b, off, rfl⟩ := y3d h1
   rw [y1k] at h1
   refine ⟨b, off, rfl, y0l h1, fun j u hu => ?_⟩
   have hj : j < ps.length * 2 := by
    have := (List.getElem?_eq_some_iff.1 hu).1
    rwa [y22] at this
   have hk : j / 2 < ps.length := by omega
   obtain ⟨q1, q2, _, _⟩ := hps (j / 2) _ (List.getElem?_eq_getElem hk)
   obtain ⟨o1, o2⟩ := y47 ps (j / 2) _ (List.getElem?_eq_getElem hk)
   rcases (show j = 2 * (j / 2) ∨ j = 2 * (j / 2) + 1 by omega) with e | e
   ·rw [e, o1] at hu
    injection hu with hu
    subst hu
    rw [y1k] at q1
    rw [show off + j = off + j / 2 * 2 by omega]
    exact q1
   ·rw [e, o2] at hu
    injection hu with hu
    subst hu
    rw [y1k] at q2
    rw [show off + j = off + (j / 2 * 2 + 1) by omega]
    exact q2
  ·obtain ⟨i, hi', rfl⟩ := List.getElem_of_mem hp
   exact (hps i _ (List.getElem?_eq_getElem hi')).2.2.1
  ·obtain ⟨i, hi', rfl⟩ := List.getElem_of_mem hp
   exact (hps i _ (List.getElem?_eq_getElem hi')).2.2.2
theorem ORow.form {w : World} {F : Nat → Prop} {x : Value} {ps : List (Value × Pure.Opt)} (h : ORow w F x ps) : ∃ A c, x = .slice A ps.length c ∧ ps.length ≤ c := by
 obtain ⟨_, _, A, c, rfl, hc, _⟩ := h.out
 exact ⟨A, c, rfl, hc⟩
theorem ORow.pick {w : World} {F : Nat → Prop} {X : Option Addr} {n cx : Nat} {ps : List (Value × Pure.Opt)} (h : ORow w F (.slice X n cx) ps) (k : Nat) (hk : k < ps.length) :
  ∃ p o A c t bs, X = some ⟨p, o, none⟩ ∧ F p ∧ w.cell? ⟨p, o + k * 2, none⟩ = some (.int .i64 t) ∧ w.cell? ⟨p, o + k * 2 + 1, none⟩ = some (.slice A bs.length c) ∧ Row w F 1 (.slice A bs.length c) bs.length (u8s bs) ∧ ps[k]? = some (.slice A bs.length c, t, bs) := by
 obtain ⟨_, _, A', c', e, _, _, hh⟩ := h.out
 obtain ⟨p, o, rfl, hF, hc⟩ := hh (by omega)
 injection e with e1 _ _
 have hget := List.getElem?_eq_getElem hk
 have hr := h.rows ps[k] (List.getElem_mem hk)
 obtain ⟨A, c, hform, _⟩ := hr.form
 obtain ⟨o1, o2⟩ := y47 ps k _ hget
 have c1 := hc _ _ o1
 have c2 := hc _ _ o2
 rw [hform] at c2 hr
 rw [← Nat.add_assoc] at c2
 rw [Nat.mul_comm 2 k] at c1 c2
 refine ⟨p, o, A, c, ps[k].2.1, ps[k].2.2, e1, hF, c1, c2, hr, ?_⟩
 rw [hget, ← hform]
abbrev optV (p : Value × Pure.Opt) : Value := .agg #[.int .i64 p.2.1, p.1]
theorem docone_any (F G : Nat → Prop) (v u : Value) (a b : Pure.Opt) (w : World) (hx : Row w F 1 v a.2.length (u8s a.2)) (hy : Row w G 1 u b.2.length (u8s b.2)) :
  Calls Tryz.prog 63 #[optV (v, a), optV (u, b)] w fun e w' => e = .returned (.bool (decide (a = b))) ∧ Keeps y01 w w' := by
 obtain ⟨A, cA, rfl, hc⟩ := hx.form
 obtain ⟨B, cB, rfl, hd⟩ := hy.form
 obtain ⟨s, la⟩ := a
 obtain ⟨t, lb⟩ := b
 dsimp only at *
 have HX := xhd hx
 have HY := xhd hy
 clear hx hy
 obtain ⟨g, hg⟩ : ∃ g, g = w.heap.size := ⟨_, rfl⟩
 go_enter Tryz.func63, Tryz.ntmps63
 go_upto_region 1 with fail
 obtain ⟨w1, hw1⟩ : ∃ w1, w1 = (w.alloc (.cells #[.int .i64 s, .slice A la.length cA] 31)).alloc (.cells #[.int .i64 t, .slice B lb.length cB] 31) := ⟨_, rfl⟩
 rw [← hw1, ← hg]
 have hb1 : Blk w1 g 31 #[.int .i64 s, .slice A la.length cA] := by rw [hw1, hg]; exact (Blk.new w _ _).alloc _
 have hb2 : Blk w1 (g + 1) 31 #[.int .i64 t, .slice B lb.length cB] := by
  rw [hw1, hg]
  have := Blk.new (w.alloc (.cells #[.int .i64 s, .slice A la.length cA] 31)) 31 #[.int .i64 t, .slice B lb.length cB]
  rw [World.size_alloc] at this
  exact this
 have hk : Keeps y01 w w1 := by rw [hw1]; exact ((Keeps.refl _ w).alloc _).alloc _
 have a0 : w1.cell? ⟨g, 0, none⟩ = some (.int .i64 s) := by rw [hb1.cell]; rfl
 have a1 : w1.cell? ⟨g, 1, none⟩ = some (.slice A la.length cA) := by rw [hb1.cell]; rfl
 have b0 : w1.cell? ⟨g + 1, 0, none⟩ = some (.int .i64 t) := by rw [hb2.cell]; rfl
 have b1 : w1.cell? ⟨g + 1, 1, none⟩ = some (.slice B lb.length cB) := by rw [hb2.cell]; rfl
 have HS := xhd (y35 F G _ _ la lb w1 (HX.out.keeps hk (fun _ _ h => h)) (HY.out.keeps hk (fun _ _ h => h)))
 have HK := xhd hk
 clear hw1 hb1 hb2 hk hg
 by_cases hst : s = t
 ·have d0 : (s == t) = true := by rw [hst]; exact beq_self_eq_true t
  have hdec : decide ((s, la) = (t, lb)) = decide (la = lb) := by rw [hst]; simp
  have HD := xhd hdec
  obtain ⟨r, hr⟩ : ∃ r, r = decide (la = lb) := ⟨_, rfl⟩
  rw [← hr] at HS HD
  clear hst hdec hr
  go_wp2_with fail
  refine HS.out.mono ?_
  rintro e w2 ⟨rfl, hk2⟩
  have HK2 := xhd (HK.out.trans hk2)
  clear hk2 HS
  cases r
  ·go_wp2
   go_ret
   exact ⟨by rw [HD.out]; rfl, HK2.out⟩
  ·go_wp2
   go_ret
   exact ⟨by rw [HD.out]; rfl, HK2.out⟩
 ·have d0 : (s == t) = false := by rw [beq_eq_false_iff_ne]; exact hst
  have HD := xhd (show decide ((s, la) = (t, lb)) = false from decide_eq_false (fun e => hst (congrArg Prod.fst e)))
  clear hst HS
  go_wp2
  go_ret
  exact ⟨by rw [HD.out]; rfl, HK.out⟩
theorem y0m {w w' : World} {b off : Nat} {u : Value} (h : w.cell? ⟨b, off, none⟩ = some u) (k : Keeps y01 w w') : w'.cell? ⟨b, off, none⟩ = some u :=
 (World.cell?_of_block (w := w) (a := ⟨b, off, none⟩) (k.block b (y0l h) (fun x => x))).trans h
abbrev y02 (ps : List (Value × Pure.Opt)) : List Pure.Opt := ps.map Prod.snd
theorem y7n (F G : Nat → Prop) (x y : Value) (ps qs : List (Value × Pure.Opt)) (w : World) (hx : ORow w F x ps) (hy : ORow w G y qs) :
  Calls Tryz.prog 22 #[x, y] w fun e w' => e = .returned (.bool (decide (y02 ps = y02 qs))) ∧ Keeps y01 w w' := by
 obtain ⟨A, cA, rfl, hc⟩ := hx.form
 obtain ⟨B, cB, rfl, hd⟩ := hy.form
 have hm := hx.out.2.1
 have hm2 := hy.out.2.1
 unfold maxLen at hm hm2
 have HX := xhd hx
 have HY := xhd hy
 clear hx hy
 by_cases hl : ps.length = qs.length
 ·have e1 : ((ps.length : Int) != (qs.length : Int)) = false := by rw [hl]; simp
  have HL := xhd hl
  rw [← hl] at HY ⊢
  rw [← hl] at e1
  clear hl hm2
  go_enter Tryz.func22, Tryz.ntmps22
  go_wp2
  clear e1
  go_loopw [5] (fun i wr => ∃ k : Nat, k ≤ ps.length ∧ i = .int .i64 (k : Int) ∧ (y02 ps).take k = (y02 qs).take k ∧ Keeps y01 w wr) (fun i _ => ps.length - (intOf i).toNat)
  case atStart => exact ⟨0, by omega, rfl, by simp, Keeps.refl _ _⟩
  case round =>
   obtain ⟨k, hk, rfl, hT, hK⟩ := hrel
   have HT := xhd hT
   have HK := xhd hK
   by_cases hkl : k < ps.length
   ·have i0 : (0 : Int) ≤ (k : Int) := by omega
    have i1 : (k : Int) < (ps.length : Int) := by omega
    have hkq : k < qs.length := by have := HL.out; omega
    obtain ⟨p, o, A1, c1, s, la, rfl, hFp, x0, x1, hra, hpa⟩ := (HX.out.keeps hK (fun _ _ h => h)).pick k hkl
    obtain ⟨q, o2, A2, c2, t, lb, rfl, hGq, y0, y1, hrb, hqb⟩ := (HY.out.keeps hK (fun _ _ h => h)).pick k hkq
    have HRA := xhd hra
    have HRB := xhd hrb
    have HPA := xhd hpa
    have HQB := xhd hqb
    clear hT hK hra hrb hpa hqb
    go_upto_region 6 with fail
    refine y0i (fun w' => w'.cell? ⟨p, o + k * 2, none⟩ = some (.int .i64 s) ∧ w'.cell? ⟨p, o + k * 2 + 1, none⟩ = some (.slice A1 la.length c1) ∧ w'.cell? ⟨q, o2 + k * 2, none⟩ = some (.int .i64 t) ∧ w'.cell? ⟨q, o2 + k * 2 + 1, none⟩ = some (.slice A2 lb.length c2)) 9 10 rfl (by kernel_rfl) ⟨x0, x1, y0, y1⟩ (fun hHeld => ?_)
    refine y00 (i := 0) rfl (by kernel_rfl) (fun _ _ _ h => h) (Or.inl ⟨by rfl, by intro w hSw; obtain ⟨s0, s1, s2, s3⟩ := hSw; go_simp; try with_reducible rfl⟩) hHeld.out ?_
    simp only [Act.put, xqA, xqB, xqD, xqE, xqF]
    refine y00 (i := 1) rfl (by kernel_rfl) (fun _ _ _ h => h) (Or.inl ⟨by rfl, by intro w hSw; obtain ⟨s0, s1, s2, s3⟩ := hSw; go_simp; try with_reducible rfl⟩) hHeld.out ?_
    simp only [Act.put, xqA, xqB, xqC, xqD, xqE, xqF]
    refine y00 (i := 2) rfl (by kernel_rfl) (fun _ _ _ h => h) (Or.inl ⟨by rfl, by intro w hSw; obtain ⟨s0, s1, s2, s3⟩ := hSw; go_simp; try with_reducible rfl⟩) hHeld.out ?_
    simp only [Act.put, xqA, xqB, xqC, xqD, xqE, xqF]
    refine y00 (i := 3) rfl (by kernel_rfl) (fun _ _ _ h => h) (Or.inl ⟨by rfl, by intro w hSw; obtain ⟨s0, s1, s2, s3⟩ := hSw; go_simp; try with_reducible rfl⟩) hHeld.out ?_
    simp only [Act.put, xqA, xqB, xqC, xqD, xqE, xqF]
    refine y00 (i := 4) rfl (by kernel_rfl) (fun _ _ _ h => h) (Or.inl ⟨by rfl, by intro w hSw; obtain ⟨s0, s1, s2, s3⟩ := hSw; go_simp; try with_reducible rfl⟩) hHeld.out ?_
    simp only [Act.put, xqA, xqB, xqC, xqD, xqE, xqF]
    refine y00 (i := 5) rfl (by kernel_rfl) (fun _ _ _ h => h) (Or.inl ⟨by rfl, by intro w hSw; obtain ⟨s0, s1, s2, s3⟩ := hSw; go_simp; try with_reducible rfl⟩) hHeld.out ?_
    simp only [Act.put, xqA, xqB, xqC, xqD, xqE, xqF]
    refine y00 (i := 6) rfl (by kernel_rfl) (fun _ _ _ h => h) (Or.inl ⟨by rfl, by intro w hSw; obtain ⟨s0, s1, s2, s3⟩ := hSw; go_simp; try with_reducible rfl⟩) hHeld.out ?_
    simp only [Act.put, xqA, xqB, xqC, xqD, xqE, xqF]
    refine y00 (i := 7) rfl (by kernel_rfl) (fun _ _ _ h => h) (Or.inl ⟨by rfl, by intro w hSw; obtain ⟨s0, s1, s2, s3⟩ := hSw; go_simp; try with_reducible rfl⟩) hHeld.out ?_
    simp only [Act.put, xqA, xqB, xqC, xqD, xqE, xqF]
    refine y05 (i := 8) (by kernel_rfl) rfl (fun K hK => ?_)
    go_simp
    have hwd : Keeps y01 wr wr.drew := (Keeps.refl _ wr).drew
    refine (docone_any F G (.slice A1 la.length c1) (.slice A2 lb.length c2) (s, la) (t, lb) wr.drew (HRA.out.keeps hwd (fun _ _ h => h)) (HRB.out.keeps hwd (fun _ _ h => h))).mono ?_
    rintro e w2 ⟨rfl, hk2⟩
    have hk2 : Keeps y01 wr w2 := hwd.trans hk2
    have HH2 := xhd (show w2.cell? ⟨p, o + k * 2, none⟩ = some (.int .i64 s) ∧ w2.cell? ⟨p, o + k * 2 + 1, none⟩ = some (.slice A1 la.length c1) ∧ w2.cell? ⟨q, o2 + k * 2, none⟩ = some (.int .i64 t) ∧ w2.cell? ⟨q, o2 + k * 2 + 1, none⟩ = some (.slice A2 lb.length c2) from
     ⟨y0m x0 hk2, y0m x1 hk2, y0m y0 hk2, y0m y1 hk2⟩)
    refine hK.out _ _ (fun _ => HH2.out) ?_
    have HK2 := xhd (HK.out.trans hk2)
    obtain ⟨r, hr⟩ : ∃ r, r = decide ((s, la) = (t, lb)) := ⟨_, rfl⟩
    rw [← hr]
    have HRr := xhd hr
    clear hK K hHeld hwd hk2 hr x0 x1 y0 y1 HK
    refine y05 (i := 9) (by kernel_rfl) rfl (fun K hK => ?_)
    go_simp
    refine hK.out _ _ (fun _ => HH2.out) ?_
    clear hK K
    refine y0f (by kernel_rfl) ?_ _
    have hps : (y02 ps)[k]? = some (s, la) := by rw [List.getElem?_map, HPA.out]; rfl
    have hqs : (y02 qs)[k]? = some (t, lb) := by rw [List.getElem?_map, HQB.out]; rfl
    cases r
    ·have hno : decide (y02 ps = y02 qs) = false := by
      rw [decide_eq_false_iff_not]
      intro he
      rw [he, hqs] at hps
      injection hps with hps
      have := HRr.out
      rw [hps] at this
      simp at this
     have HNO := xhd hno
     clear hno hps hqs
     go_wp2
     go_ret
     exact ⟨by rw [HNO.out]; rfl, HK2.out⟩
    ·have hyes : (s, la) = (t, lb) := of_decide_eq_true HRr.out.symm
     have hTk : (y02 ps).take (k + 1) = (y02 qs).take (k + 1) := by
      rw [List.take_succ_eq_append_getElem (by simpa using hkl), List.take_succ_eq_append_getElem (by simpa using hkq), HT.out]
      congr 1
      have e1 : (y02 ps)[k]'(by simpa using hkl) = (s, la) := by
       have := List.getElem?_eq_getElem (l := y02 ps) (i := k) (by simpa using hkl)
       rw [hps] at this
       injection this with this
       exact this.symm
      have e2 : (y02 qs)[k]'(by simpa using hkq) = (t, lb) := by
       have := List.getElem?_eq_getElem (l := y02 qs) (i := k) (by simpa using hkq)
       rw [hqs] at this
       injection this with this
       exact this.symm
      rw [e1, e2, hyes]
     have HTk := xhd hTk
     clear hyes hTk hps hqs HT
     go_wp2_with fail
     go_roundw
     case rel => exact ⟨k + 1, by omega, by go_num, HTk.out, HK2.out⟩
     case measure => simp [intOf]; omega
   ·have hkk : k = ps.length := by omega
    have hyes : decide (y02 ps = y02 qs) = true := by
     rw [decide_eq_true_eq]
     have h := HT.out
     rw [List.take_of_length_le (by simp; omega), List.take_of_length_le (by simp; have := HL.out; omega)] at h
     exact h
    have HYES := xhd hyes
    subst hkk
    clear hyes hT hK hkl hk HT
    go_wp2
    go_ret
    exact ⟨by rw [HYES.out]; rfl, HK.out⟩
 ·have e1 : ((ps.length : Int) != (qs.length : Int)) = true := by rw [bne_iff_ne]; omega
  have hno : decide (y02 ps = y02 qs) = false := by
   rw [decide_eq_false_iff_not]
   intro he
   have := congrArg List.length he
   simp at this
   exact hl this
  have HNO := xhd hno
  clear hno hl
  go_enter Tryz.func22, Tryz.ntmps22
  go_wp2
  go_ret
  exact ⟨by rw [HNO.out]; rfl, Keeps.refl _ _⟩
theorem y2p {w : World} {o : Obj} {a : Addr} {v : Value} (h : w.cell? a = some v) : (w.alloc o).cell? a = some v :=
 (World.cell?_alloc_lt w o a (by rcases Nat.lt_or_ge a.block w.heap.size with hl | hg; exact hl; simp [World.cell?, Array.getElem?_eq_none hg] at h)).trans h
theorem y7z (l : List Pure.Opt) (o : Pure.Opt) : Pure.joined (l ++ [o]) = Pure.joined l ++ Pure.Opt.bytes o := by simp [Pure.joined]
theorem y4m (l : List Pure.Opt) (k : Nat) (o : Pure.Opt) (h : l[k]? = some o) : l.take (k + 1) = l.take k ++ [o] := by
 have hk := (List.getElem?_eq_some_iff.1 h).1
 rw [List.take_succ_eq_append_getElem hk]
 rw [List.getElem?_eq_getElem hk] at h
 injection h with h
 rw [h]
theorem y4l : (Tryz.prog.info? 31).map (fun i => (i.zero, i.size, i.bytes)) = some (some (.agg #[.int .i64 0, .slice none 0 0]), 2, 32) := by kernel_rfl
theorem y3g (ps : List (Value × Pure.Opt)) (h : ∀ p ∈ ps, p.1.oneCell' = true) : ∀ u ∈ y0j ps, u.oneCell' = true := by
 intro u hu
 obtain ⟨p, hp, hu⟩ := List.mem_flatMap.1 hu
 simp at hu
 rcases hu with rfl | rfl
 ·rfl
 ·exact h p hp
structure Read (w0 w : World) (v : Value) (ps : List (Value × Pure.Opt)) : Prop where
 own : w.ownsRow w0.heap.size 31 2 v ps.length (y0j ps)
 rows : ∀ p ∈ ps, Row w (fun b => w0.heap.size ≤ b ∧ v.ownBlock ≠ some b ∧ b < w.heap.size) 1 p.1 p.2.2.length (u8s p.2.2)
 below : Below w0.heap.size w0 w
theorem y0x {w w' : World} {b off : Nat} {u : Value} (h : w.cell? ⟨b, off, none⟩ = some u) (k : Keeps y01 w w') : w'.cell? ⟨b, off, none⟩ = some u :=
 (World.cell?_of_block (w := w) (a := ⟨b, off, none⟩) (k.block b (y0l h) (fun x => x))).trans h
theorem Read.keeps {w0 w w' : World} {v : Value} {qs : List (Value × Pure.Opt)} (h : Read w0 w v qs) (k : Keeps y01 w w') : Read w0 w' v qs :=
 ⟨y0g h.own k (fun _ _ h => h), fun p hp => ((h.rows p hp).keeps k (fun _ _ h => h)).mono (fun _ hb => ⟨hb.1, hb.2.1, Nat.lt_of_lt_of_le hb.2.2 k.size⟩), Below.quiet h.below k h.below.size⟩
theorem Read.nil (w : World) : Read w w (.slice none 0 0) [] := ⟨World.ownsRow_nil _ _ _ _, by simp, Below.refl _ _⟩
theorem Read.row {w0 w : World} {v : Value} {ps : List (Value × Pure.Opt)} (h : Read w0 w v ps) : ORow w (fun b => w0.heap.size ≤ b) v ps :=
 ⟨(Row.of_own h.own).mono (fun b hb => y06 h.own b hb), fun p hp => (h.rows p hp).mono (fun _ hb => hb.1)⟩
theorem Read.form {w0 w : World} {v : Value} {ps : List (Value × Pure.Opt)} (h : Read w0 w v ps) : ∃ A c, v = .slice A ps.length c := y04 h.own
theorem Read.fresh {w0 w w' : World} {v d : Value} {qs : List (Value × Pure.Opt)} {n : Nat} {xs : List Value} (h : Read w0 w v qs) (hd : Row w' (fun b => w.heap.size ≤ b) 1 d n xs) :
  Row w' (fun b => w0.heap.size ≤ b ∧ v.ownBlock ≠ some b ∧ b < w'.heap.size) 1 d n xs := by
 obtain ⟨h1, h0, A, c, h2, h3, h4, h5⟩ := hd
 refine ⟨h1, h0, A, c, h2, h3, h4, fun hn => ?_⟩
 obtain ⟨b, off, e, f, g⟩ := h5 hn
 have hl : 0 < xs.length := by rw [h1]; omega
 have hlt := y0l (g 0 _ (List.getElem?_eq_getElem hl))
 exact ⟨b, off, e, ⟨by have := h.below.size; omega, fun e => by have := y0o h.own b e; omega, hlt⟩, g⟩
section
variable {w0 w : World} {o : Oper} {a : Act} {Q : Exit → Act → World → Prop}
theorem y6i {K : Act → World → Prop} (s x : Operand) (ho : o.op = .call { callee := .builtin .append, args := #[s, x], argTypes := #[27, 27] })
  (v : Value) (qs : List (Value × Pure.Opt)) (A3 : Option Addr) (c3 : Nat) (t : Int) (D : List UInt8) (hs : a.eval s = v) (hx : a.eval x = .slice (some ⟨w.heap.size, 0, none⟩) 1 1) (hR : Read w0 w v qs) (hq : qs.length ≤ 1000000)
  (hd : Row w (fun b => w0.heap.size ≤ b ∧ v.ownBlock ≠ some b ∧ b < w.heap.size) 1 (.slice A3 D.length c3) D.length (u8s D))
  (h : ∀ A c w', Read w0 w' (.slice A (qs.length + 1) c) (qs ++ [(.slice A3 D.length c3, (t, D))]) → Keeps (fun b => v.ownBlock = some b) w w' → K (a.put o.dst (.slice A (qs.length + 1) c)) w') :
  o.wp Tryz.prog a (w.alloc (.cells #[.int .i64 t, .slice A3 D.length c3] 31)) K Q := by
 obtain ⟨i0, hi0, hz0, hz1, hz2⟩ := info_parts y4l
 obtain ⟨wb, hwb⟩ : ∃ wb, wb = w.alloc (.cells (y0j [(.slice A3 D.length c3, (t, D))]).toArray 31) := ⟨_, rfl⟩
 have hwb' : w.alloc (.cells #[.int .i64 t, .slice A3 D.length c3] 31) = wb := hwb.symm
 rw [hwb']
 have hkb : Keeps y01 w wb := by rw [hwb]; exact (Keeps.refl _ w).alloc _
 have hbb : Blk wb w.heap.size 31 (y0j [(.slice A3 D.length c3, (t, D))]).toArray := by rw [hwb]; exact Blk.new w _ _
 have hrb : Row wb (fun b => b = w.heap.size) 2 (.slice (some ⟨w.heap.size, 0, none⟩) 1 1) 1 (y0j [(.slice A3 D.length c3, (t, D))]) := by
  have h := Row.block (F := fun b => b = w.heap.size) (n := 1) (c := 1) (size := 2) hbb rfl rfl (by unfold maxLen; omega) (Nat.le_refl _)
  exact h
 have hownb : wb.ownsRow w0.heap.size 31 2 v qs.length (y0j qs) := y0g hR.own hkb (fun _ _ h => h)
 have hBb : Below w0.heap.size w0 wb := Below.quiet hR.below hkb hR.below.size
 have hone : ∀ p ∈ ([(.slice A3 D.length c3, (t, D))] : List (Value × Pure.Opt)), p.1.oneCell' = true := by
  intro p hp
  simp at hp
  subst hp
  rfl
 refine y1s s x _ ho w0.heap.size 31 i0 _ 2 32 Tryz.underlying27 hi0 hz0 hz1 hz2 rfl (by omega) v _ (y0j qs) hs hownb _ _ 1 (y0j [(.slice A3 D.length c3, (t, D))]) hx hrb (y3g _ hone) (by unfold maxLen; omega) (by omega) hBb.size ?_
 intro v3 w3 hown3 hg3 hat3
 have hcat : y0j qs ++ y0j [(.slice A3 D.length c3, (t, D))] = y0j (qs ++ [(.slice A3 D.length c3, (t, D))]) := by simp [y0j]
 rw [hcat] at hown3
 have hkw : Keeps (fun b => v.ownBlock = some b) wb w3 := (Keeps.refl _ wb).grown hg3 (fun k hk _ => hk)
 have hwbs : w.heap.size < wb.heap.size := by rw [hwb]; simp
 have hread : Read w0 w3 v3 (qs ++ [(.slice A3 D.length c3, (t, D))]) := by
  refine ⟨by rw [List.length_append]; exact hown3, fun p hp => ?_, hBb.grown hg3 hBb.size (fun k hk => y06 hownb k hk)⟩
  have hrow : Row w (fun b => w0.heap.size ≤ b ∧ v.ownBlock ≠ some b ∧ b < w.heap.size) 1 p.1 p.2.2.length (u8s p.2.2) := by
   rcases List.mem_append.1 hp with hp | hp
   ·exact hR.rows p hp
   ·simp at hp
    subst hp
    exact hd
  have h1 := (hrow.keeps hkb (fun _ _ h => h)).keeps hkw (fun b hb => hb.2.1)
  refine h1.mono (fun b hb => ⟨hb.1, ?_, by have := hkw.size; omega⟩)
  rcases hat3 with e | e
  ·rw [e]; exact hb.2.1
  ·rw [e]; intro h; injection h with h; omega
 obtain ⟨A4, c4, rfl⟩ := y04 hown3
 refine h A4 c4 w3 hread ?_
 exact (hkb.mono (fun _ h => h.elim)).trans hkw
theorem y0w {ops : Array Oper} {rest : List Oper} (hgd : o.guard = none) (s x : Operand) (ho : o.op = .call { callee := .builtin .append, args := #[s, x], argTypes := #[27, 27] })
  (v : Value) (qs : List (Value × Pure.Opt)) (A3 : Option Addr) (c3 : Nat) (t : Int) (D : List UInt8) (hs : a.eval s = v) (hx : a.eval x = .slice (some ⟨w.heap.size, 0, none⟩) 1 1) (hR : Read w0 w v qs) (hq : qs.length ≤ 1000000)
  (hd : Row w (fun b => w0.heap.size ≤ b ∧ v.ownBlock ≠ some b ∧ b < w.heap.size) 1 (.slice A3 D.length c3) D.length (u8s D))
  (h : ∀ A c w', Read w0 w' (.slice A (qs.length + 1) c) (qs ++ [(.slice A3 D.length c3, (t, D))]) → Keeps (fun b => v.ownBlock = some b) w w' → wpList Tryz.prog ops Q rest (a.put o.dst (.slice A (qs.length + 1) c)) w') :
  wpList Tryz.prog ops Q (o :: rest) a (w.alloc (.cells #[.int .i64 t, .slice A3 D.length c3] 31)) :=
 wpList_plain hgd fun _ hK => y6i s x ho v qs A3 c3 t D hs hx hR hq hd fun A c w' h2 h3 => hK _ _ (h A c w' h2 h3)
end
theorem made_read (w : World) (n : Nat) (hn : n ≤ 1000000) : ∃ cs, (Instr.makeSlice 27 (.int .i64 0) (.int .i64 (n : Int))).run Tryz.prog w = .ok (.slice (some ⟨w.heap.size, 0, none⟩) 0 n) (w.alloc (.cells cs 31)) ∧
  Read w (w.alloc (.cells cs 31)) (.slice (some ⟨w.heap.size, 0, none⟩) 0 n) [] := by
 obtain ⟨i0, hi0, hz0, hz1, hz2⟩ := info_parts y4l
 have hrun := run_make (P := Tryz.prog) w 27 31 i0 _ Tryz.underlying27 hi0 hz0 .i64 .i64 0 n (by omega) (by omega) (by rw [hz2]; omega) (by omega)
 rw [hz1, Int.toNat_natCast, show Int.toNat 0 = 0 from rfl] at hrun
 refine ⟨_, hrun, ⟨⟨by simp, .inr ⟨w.heap.size, n, _, rfl, Nat.le_refl _, Blk.new w _ _, by simp, by unfold maxLen; omega, by simp [madeCells], by simp⟩⟩, by simp, ?_⟩⟩
 exact Keeps.to_below ((Keeps.refl _ w).alloc _)
namespace Pure
structure Rule where
 type : Int
 len : Int
 how : Int
 lo : Int
 hi : Int
 want : List UInt8
 need : Bool
def bnum (b : List UInt8) : Nat := b.foldl (fun n x => n * 256 + x.toNat) 0
def wide (x n : Nat) : List UInt8 := (List.range n).map fun i => UInt8.ofNat (x / 256 ^ (n - 1 - i) % 256)
def Rule.numbered (r : Rule) (b : List UInt8) : Prop := 1 ≤ r.len ∧ r.len ≤ 4 ∧ (b.length : Int) = r.len
instance (r : Rule) (b : List UInt8) : Decidable (r.numbered b) := by unfold Rule.numbered; infer_instance
def Rule.fits (r : Rule) (b : List UInt8) : Prop :=
 (r.how = 1 ∧ (r.len < 0 ∨ (b.length : Int) = r.len)) ∨ (r.how = 2 ∧ r.numbered b ∧ r.lo ≤ bnum b ∧ bnum b ≤ r.hi) ∨ (r.how = 3 ∧ b = r.want) ∨ (r.how = 4 ∧ r.numbered b ∧ bnum b &&& r.hi.toNat = bnum b)
instance (r : Rule) (b : List UInt8) : Decidable (r.fits b) := by unfold Rule.fits; infer_instance
def Rule.offers (r : Rule) (b : List UInt8) : Option Opt :=
 if r.how = 2 ∧ 1 ≤ r.len ∧ r.len ≤ 4 then some (r.type, wide (if r.numbered b ∧ (bnum b : Int) < r.lo then r.lo.toNat else r.hi.toNat) r.len.toNat)
 else if r.how = 3 then some (r.type, r.want)
 else if r.how = 4 ∧ 1 ≤ r.len ∧ r.len ≤ 4 then some (r.type, wide (if r.numbered b then bnum b &&& r.hi.toNat else r.hi.toNat) r.len.toNat)
 else none
def ruleOf (rules : List Rule) (t : Int) : Option Rule := rules.find? fun r => decide (r.type = t)
def y64 (l : List Opt) (t : Int) : Bool := l.any fun o => decide (o.1 = t)
inductive Verdict where
 | pass
 | reject
 | offer (o : Opt)
def verdict (rules : List Rule) (rejects : Bool) (before : List Opt) (o : Opt) : Verdict :=
 match ruleOf rules o.1 with
 | none => .reject
 | some r =>
  if y64 before o.1 = true then .reject
  else if r.fits o.2 then .pass
  else match r.offers o.2 with
   | none => .reject
   | some p => if rejects = true then .reject else .offer p
def y1i (rules : List Rule) (rejects : Bool) (l : List Opt) : Nat → List Opt × List Opt
 | 0 => ([], [])
 | k + 1 =>
  match l[k]? with
  | none => y1i rules rejects l k
  | some o =>
   match verdict rules rejects (l.take k) o with
   | .pass => y1i rules rejects l k
   | .reject => ((y1i rules rejects l k).1 ++ [o], (y1i rules rejects l k).2)
   | .offer p => ((y1i rules rejects l k).1, (y1i rules rejects l k).2 ++ [p])
def y2h (rules : List Rule) (l nak : List Opt) : Nat → List Opt
 | 0 => nak
 | k + 1 =>
  match rules[k]? with
  | none => y2h rules l nak k
  | some r =>
   if r.need = false ∨ y64 l r.type = true ∨ y64 (y2h rules l nak k) r.type = true then y2h rules l nak k
   else match ruleOf rules r.type with
    | none => y2h rules l nak k
    | some f => if f.need = false then y2h rules l nak k else match f.offers [] with
     | none => y2h rules l nak k
     | some o => y2h rules l nak k ++ [o]
def judge (rules : List Rule) (l : List Opt) (rejects : Bool) : Nat × List Opt :=
 if (y1i rules rejects l l.length).1 ≠ [] then (4, (y1i rules rejects l l.length).1)
 else
  let nak := if rejects = true then (y1i rules rejects l l.length).2 else y2h rules l (y1i rules rejects l l.length).2 rules.length
  if nak ≠ [] then (3, nak) else (2, l)
def nakedOne (rules : List Rule) (nak : List Opt) (o : Opt) : Opt :=
 match nak.find? (fun p => decide (p.1 = o.1)) with
 | none => o
 | some p =>
  match ruleOf rules o.1 with
  | none => o
  | some r =>
   if r.how = 1 then (o.1, p.2)
   else if r.how = 2 ∧ r.numbered p.2 then (o.1, wide (min (max (bnum p.2) r.lo.toNat) r.hi.toNat) r.len.toNat)
   else if r.how = 4 ∧ r.numbered p.2 then (o.1, wide (bnum p.2 &&& r.hi.toNat) r.len.toNat)
   else o
def naked (rules : List Rule) (ask nak : List Opt) : List Opt := ask.map (nakedOne rules nak)
def needy (rules : List Rule) (t : Int) : Bool := match ruleOf rules t with | some r => r.need | none => false
def stays (rules : List Rule) (rej : List Opt) (o : Opt) : Bool := !rej.any (fun p => decide (o = p)) || needy rules o.1
def left (rules : List Rule) (ask rej : List Opt) : List Opt := ask.filter (stays rules rej)
theorem bnum_snoc (b : List UInt8) (x : UInt8) : bnum (b ++ [x]) = bnum b * 256 + x.toNat := by simp [bnum, List.foldl_append]
theorem bnum_from (b : List UInt8) : ∀ n : Nat, b.foldl (fun n x => n * 256 + x.toNat) n < (n + 1) * 256 ^ b.length := by
 induction b with
 | nil => intro n; simp
 | cons x b ih =>
  intro n
  rw [List.foldl_cons, List.length_cons, Nat.pow_succ]
  have hx := x.toNat_lt
  have h1 := ih (n * 256 + x.toNat)
  have h2 : (n * 256 + x.toNat + 1) * 256 ^ b.length ≤ ((n + 1) * 256) * 256 ^ b.length := Nat.mul_le_mul_right _ (by omega)
  have h3 : ((n + 1) * 256) * 256 ^ b.length = (n + 1) * (256 ^ b.length * 256) := by rw [Nat.mul_assoc, Nat.mul_comm 256]
  omega
theorem bnum_lt (b : List UInt8) : bnum b < 256 ^ b.length := by have := bnum_from b 0; rw [Nat.zero_add, Nat.one_mul] at this; exact this
theorem bnum_small {b : List UInt8} (h : b.length ≤ 4) : bnum b < 4294967296 :=
 Nat.lt_of_lt_of_le (bnum_lt b) (show 256 ^ b.length ≤ 256 ^ 4 from Nat.pow_le_pow_right (by omega) h)
theorem wide_length (x n : Nat) : (wide x n).length = n := by simp [wide]
end Pure
namespace Pure
def fsmRows : List (List (List Nat × Nat)) := [
 [([], 2), ([4, 6], 6), ([], 2), ([], 3), ([], 4), ([], 5), ([], 6), ([], 7), ([], 8), ([], 9)],
 [([], 0), ([], 1), ([], 0), ([2], 1), ([], 0), ([], 1), ([], 1), ([], 1), ([], 1), ([1], 1)],
 [([2], 1), ([], 1), ([4, 6], 6), ([], 3), ([], 5), ([], 5), ([], 6), ([], 7), ([], 8), ([], 9)],
 [([], 0), ([3], 0), ([], 2), ([], 2), ([], 4), ([], 4), ([4, 9], 4), ([4, 9], 4), ([4, 9], 4), ([1, 4, 9], 4)],
 [([], 0), ([], 1), ([], 2), ([], 3), ([9], 4), ([9], 5), ([6], 6), ([6], 6), ([6], 8), ([], 9)],
 [([], 0), ([], 1), ([], 2), ([], 3), ([3], 2), ([3], 3), ([3], 3), ([3], 3), ([3], 3), ([], 9)],
 [([], 0), ([], 1), ([10], 2), ([4, 6, 7], 8), ([], 4), ([], 5), ([7], 8), ([7, 0], 9), ([7], 8), ([1, 6, 7], 8)],
 [([], 0), ([], 1), ([10], 2), ([4, 6, 8], 6), ([], 4), ([], 5), ([8], 6), ([8], 7), ([8], 6), ([1, 6, 8], 6)],
 [([], 0), ([], 1), ([10], 2), ([10], 3), ([], 4), ([], 5), ([4], 7), ([6], 6), ([4, 0], 9), ([1, 6], 6)],
 [([], 0), ([], 1), ([10], 2), ([10], 3), ([], 4), ([], 5), ([4, 6], 6), ([6], 6), ([4, 6], 8), ([1, 6], 6)],
 [([], 0), ([], 1), ([10], 2), ([10], 3), ([10], 4), ([10], 5), ([10], 6), ([10], 6), ([10], 6), ([1, 5, 10], 5)],
 [([], 0), ([], 1), ([], 2), ([], 3), ([3], 2), ([3], 3), ([], 6), ([], 6), ([], 8), ([1, 6], 6)],
 [([], 0), ([], 1), ([11], 2), ([11], 3), ([11], 4), ([11], 5), ([11], 6), ([11], 7), ([11], 8), ([11], 9)],
 [([], 0), ([], 1), ([], 2), ([], 3), ([], 4), ([], 5), ([], 6), ([], 6), ([], 8), ([], 9)],
 [([], 0), ([], 1), ([3], 2), ([3], 3), ([3], 2), ([3], 3), ([3], 3), ([3], 3), ([3], 3), ([1, 4, 9], 5)],
 [([], 0), ([], 1), ([], 2), ([], 3), ([], 4), ([], 5), ([], 6), ([], 7), ([], 8), ([12], 9)]]
def fsmAt (s e : Nat) : List Nat × Nat := (fsmRows.getD e []).getD s ([], s)
def fsmStep (s e : Int) : List Nat × Int := if 0 ≤ s ∧ s ≤ 9 ∧ 0 ≤ e ∧ e < 16 then ((fsmAt s.toNat e.toNat).1, ((fsmAt s.toNat e.toNat).2 : Int)) else ([], s)
structure Mach where
 state : Nat
 count : Nat
 left : Nat
 tries : Nat
 timeout : Nat
deriving DecidableEq
def Mach.act (m : Mach) (a : Nat) : Mach :=
 if a = 4 then { m with count := m.tries } else if a = 5 then { m with count := 0, left := m.timeout } else if a = 6 ∨ a = 9 then { m with count := m.count - 1, left := m.timeout } else m
def Mach.rest (m : Mach) : Mach := if m.state < 4 ∨ m.state = 9 then { m with left := 0 } else m
def Mach.step (m : Mach) (e : Nat) : List Nat × Mach := ((fsmAt m.state e).1, ((fsmAt m.state e).1.foldl Mach.act { m with state := (fsmAt m.state e).2 }).rest)
def does (e : Int) : Prop := 0 ≤ e ∧ e < 16 ∧ e ≠ 4 ∧ e ≠ 5
instance (e : Int) : Decidable (does e) := by unfold does; infer_instance
def Mach.act2 (m : Mach) (e : Int) : List Nat × Mach := if does e then m.step e.toNat else ([], m)
def Mach.tick (m : Mach) : List Nat × Mach :=
 if m.left = 0 then ([], m) else if 1 < m.left then ([], { m with left := m.left - 1 }) else if 0 < m.count then { m with left := 0 }.step 4 else { m with left := 0 }.step 5
def Mach.call (m : Mach) (x : Int) : List Nat × Mach := if x = -2 then m.tick else m.act2 x
def newMach (tries timeout : Nat) : Mach := ⟨0, 0, 0, tries, timeout⟩
theorem fsmAt_le : ∀ s < 10, ∀ e < 16, (fsmAt s e).2 ≤ 9 ∧ ∀ a ∈ (fsmAt s e).1, a ≤ 12 := by decide +kernel
structure Mach.Good (m : Mach) : Prop where
 state : m.state ≤ 9
 tries : 1 ≤ m.tries
 timeout : 1 ≤ m.timeout
 count : m.count ≤ m.tries
 left : m.left ≤ m.timeout
 rest : m.state < 4 ∨ m.state = 9 → m.left = 0
 runs : 4 ≤ m.state → m.state ≤ 8 → 0 < m.left
theorem newMach_good {t u : Nat} (ht : 1 ≤ t) (hu : 1 ≤ u) : (newMach t u).Good := ⟨by simp [newMach], ht, hu, by simp [newMach], by simp [newMach], fun _ => rfl, fun h => by simp [newMach] at h⟩
theorem act_keeps (l : List Nat) : ∀ (m : Mach), (l.foldl Mach.act m).state = m.state ∧ (l.foldl Mach.act m).tries = m.tries ∧ (l.foldl Mach.act m).timeout = m.timeout ∧
  (m.count ≤ m.tries → (l.foldl Mach.act m).count ≤ m.tries) ∧ (m.left ≤ m.timeout → (l.foldl Mach.act m).left ≤ m.timeout) ∧ (m.left = m.timeout → (l.foldl Mach.act m).left = m.timeout) := by
 induction l with
 | nil => intro m; exact ⟨rfl, rfl, rfl, id, id, id⟩
 | cons a l ih =>
  intro m
  rw [List.foldl_cons]
  obtain ⟨h1, h2, h3, h4, h5, h6⟩ := ih (m.act a)
  have k : (m.act a).state = m.state ∧ (m.act a).tries = m.tries ∧ (m.act a).timeout = m.timeout ∧ (m.count ≤ m.tries → (m.act a).count ≤ m.tries) ∧ (m.left ≤ m.timeout → (m.act a).left ≤ m.timeout) ∧ (m.left = m.timeout → (m.act a).left = m.timeout) := by
   unfold Mach.act
   split
   ·exact ⟨rfl, rfl, rfl, fun _ => Nat.le_refl _, id, id⟩
   ·split
    ·exact ⟨rfl, rfl, rfl, fun _ => Nat.zero_le _, fun _ => Nat.le_refl _, fun _ => rfl⟩
    ·split
     ·exact ⟨rfl, rfl, rfl, fun h => by show m.count - 1 ≤ m.tries; omega, fun _ => Nat.le_refl _, fun _ => rfl⟩
     ·exact ⟨rfl, rfl, rfl, id, id, id⟩
  obtain ⟨k1, k2, k3, k4, k5, k6⟩ := k
  rw [k2] at h2 h4
  rw [k3] at h3 h5 h6
  exact ⟨h1.trans k1, h2, h3, fun h => h4 (k4 h), fun h => h5 (k5 h), fun h => h6 (k6 h)⟩
def y27 (l : List Nat) : Bool := l.any fun a => a == 5 || a == 6 || a == 9
theorem y4o (l : List Nat) : ∀ (m : Mach), y27 l = true → (l.foldl Mach.act m).left = m.timeout := by
 induction l with
 | nil => intro m h; cases h
 | cons a l ih =>
  intro m h
  rw [List.foldl_cons]
  by_cases ha : a = 5 ∨ a = 6 ∨ a = 9
  ·have k : (m.act a).left = m.timeout ∧ (m.act a).timeout = m.timeout := by
    rcases ha with rfl | rfl | rfl <;> exact ⟨rfl, rfl⟩
   have := (act_keeps l (m.act a)).2.2.2.2.2 (by rw [k.1, k.2])
   rw [this, k.2]
  ·have hl : y27 l = true := by
    have : (a == 5 || a == 6 || a == 9) = false := by
     rw [Bool.eq_false_iff]; intro h; simp at h; omega
    simpa [y27, this] using h
   rw [ih (m.act a) hl]
   unfold Mach.act
   split
   ·rfl
   ·split
    ·rfl
    ·split <;> rfl
theorem fsm_runs' : ∀ s < 10, ∀ e < 16, (fsmAt s e).2 < 4 ∨ 8 < (fsmAt s e).2 ∨ y27 (fsmAt s e).1 = true ∨ (4 ≤ s ∧ s ≤ 8 ∧ e ≠ 4 ∧ e ≠ 5) := by decide +kernel
theorem fsm_runs (s : Nat) (hs : s < 10) (e : Nat) (he : e < 16) (h1 : 4 ≤ (fsmAt s e).2) (h2 : (fsmAt s e).2 ≤ 8) : y27 (fsmAt s e).1 = true ∨ (4 ≤ s ∧ s ≤ 8 ∧ e ≠ 4 ∧ e ≠ 5) := by
 rcases fsm_runs' s hs e he with h | h | h
 ·omega
 ·omega
 ·exact h
theorem rest_eq (m : Mach) : m.rest.state = m.state ∧ m.rest.count = m.count ∧ m.rest.tries = m.tries ∧ m.rest.timeout = m.timeout ∧ (m.rest.left = m.left ∨ m.rest.left = 0) := by
 unfold Mach.rest
 split
 ·exact ⟨rfl, rfl, rfl, rfl, .inr rfl⟩
 ·exact ⟨rfl, rfl, rfl, rfl, .inl rfl⟩
theorem step_good {m : Mach} {e : Nat} (he : e < 16) (hs : m.state ≤ 9) (ht : 1 ≤ m.tries) (hu : 1 ≤ m.timeout) (hc : m.count ≤ m.tries) (hl : m.left ≤ m.timeout) (hr : e ≠ 4 → e ≠ 5 → 4 ≤ m.state → m.state ≤ 8 → 0 < m.left) :
  (m.step e).2.Good ∧ (m.step e).2.state = (fsmAt m.state e).2 ∧ (m.step e).2.tries = m.tries ∧ (m.step e).2.timeout = m.timeout := by
 obtain ⟨k1, k2, k3, k4, k5, k6⟩ := act_keeps (fsmAt m.state e).1 { m with state := (fsmAt m.state e).2 }
 obtain ⟨r1, r2, r3, r4, r5⟩ := rest_eq ((fsmAt m.state e).1.foldl Mach.act { m with state := (fsmAt m.state e).2 })
 have hst : (m.step e).2.state = (fsmAt m.state e).2 := r1.trans k1
 refine ⟨⟨?_, ?_, ?_, ?_, ?_, ?_, ?_⟩, hst, r3.trans k2, r4.trans k3⟩
 ·rw [hst]; exact (fsmAt_le m.state (by omega) e he).1
 ·rw [show (m.step e).2.tries = m.tries from r3.trans k2]; exact ht
 ·rw [show (m.step e).2.timeout = m.timeout from r4.trans k3]; exact hu
 ·rw [show (m.step e).2.count = _ from r2, show (m.step e).2.tries = m.tries from r3.trans k2]; exact k4 hc
 ·rw [show (m.step e).2.timeout = m.timeout from r4.trans k3]
  rcases r5 with h | h
  ·rw [show (m.step e).2.left = _ from h]; exact k5 hl
  ·rw [show (m.step e).2.left = _ from h]; omega
 ·intro h
  rw [hst] at h
  show (Mach.rest _).left = 0
  unfold Mach.rest
  rw [k1]
  rw [if_pos h]
 ·intro h1 h2
  rw [hst] at h1 h2
  show 0 < (Mach.rest _).left
  unfold Mach.rest
  rw [k1]
  rw [if_neg (show ¬ ((fsmAt m.state e).2 < 4 ∨ (fsmAt m.state e).2 = 9) by omega)]
  rcases fsm_runs m.state (by omega) e he h1 h2 with h | ⟨h3, h4, h5, h6⟩
  ·rw [y4o _ _ h]; exact hu
  ·by_cases hst : y27 (fsmAt m.state e).1 = true
   ·rw [y4o _ _ hst]; exact hu
   ·have hno : ∀ (l : List Nat) (m : Mach), y27 l = false → (l.foldl Mach.act m).left = m.left := by
     intro l
     induction l with
     | nil => intro m _; rfl
     | cons a l ih =>
      intro m h
      simp [y27] at h
      rw [List.foldl_cons, ih _ (by simp [y27]; exact h.2)]
      unfold Mach.act
      split
      ·rfl
      ·rw [if_neg (by omega), if_neg (by omega)]
    rw [hno _ _ (by simpa using hst)]
    exact hr h5 h6 h3 h4
theorem act2_good {m : Mach} (h : m.Good) (e : Int) : (m.act2 e).2.Good ∧ (m.act2 e).2.tries = m.tries ∧ (m.act2 e).2.timeout = m.timeout := by
 unfold Mach.act2
 split
 ·rename_i hd
  unfold does at hd
  obtain ⟨g, _, a, b⟩ := step_good (m := m) (e := e.toNat) (by omega) h.state h.tries h.timeout h.count h.left (fun _ _ => h.runs)
  exact ⟨g, a, b⟩
 ·exact ⟨h, rfl, rfl⟩
end Pure
namespace Pure
def many (f : Nat → Bool) (l : List Nat) : Nat := (l.filter f).length
def asks (l : List Nat) : Nat := many (fun a => a == 6 || a == 9) l
theorem act2_step {e : Nat} (he : does e) (m : Mach) : m.act2 e = m.step e := by
 unfold Mach.act2
 rw [if_pos he]
 rfl
end Pure
namespace Pure
structure Said where
 send : List Pkt
 up : Bool
 down : Bool
 start : Bool
 done : Bool
def mute : Said := ⟨[], false, false, false, false⟩
structure Reply where
 p : Pkt
 code : Nat
 l : List Opt
structure Neg where
 rules : List Rule
 first : List Opt
 request : List Opt
 m : Mach
 id : Nat
 asked : Nat
 naks : Nat
 waits : Bool
 acked : List Opt
 theirs : List Opt
 dropped : Nat
 ours : List UInt8
def Neg.next (n : Neg) : Nat := (n.id + 1) % 256
def Neg.again (n : Neg) : Neg := { n with request := n.first, naks := 0 }
def Said.more (o : Said) (p : Pkt) : Said := { o with send := o.send ++ [p] }
def sendOwn (s : Neg × Said) (code : Nat) (data : List UInt8) : Neg × Said := ({ s.1 with id := s.1.next }, s.2.more ⟨code, s.1.next, data⟩)
def sendReq (s : Neg × Said) : Neg × Said := ({ s.1 with ours := (options s.1.request).2, waits := true, id := s.1.next, asked := s.1.next }, s.2.more ⟨1, s.1.next, (options s.1.request).2⟩)
def y53 (s : Neg × Said) : Option Reply → Neg × Said
 | none => s
 | some q => ({ s.1 with naks := if q.code = 3 then s.1.naks + 1 else s.1.naks }, s.2.more ⟨q.code, q.p.id, (options q.l).2⟩)
def y4d (s : Neg × Said) : Option Reply → Neg × Said
 | none => sendOwn s 6 []
 | some q => if q.p.code = 5 then (s.1, s.2.more ⟨6, q.p.id, []⟩) else sendOwn s 6 []
def y4c (s : Neg × Said) : Option Reply → Neg × Said
 | none => s
 | some q => sendOwn s 7 ((encode q.p).2.take 1496)
def y2u (r : Option Reply) (s : Neg × Said) : Nat → Neg × Said
 | 0 => (s.1, { s.2 with up := true })
 | 1 => (s.1, { s.2 with down := true })
 | 2 => (s.1.again, { s.2 with start := true })
 | 3 => (s.1, { s.2 with done := true })
 | 6 => sendReq s
 | 7 => y53 s r
 | 8 => y53 s r
 | 9 => sendOwn s 5 []
 | 10 => y4d s r
 | 11 => y4c s r
 | _ => s
def Neg.acts (n : Neg) (l : List Nat) (r : Option Reply) : Neg × Said := l.foldl (y2u r) (n, mute)
def Neg.event (n : Neg) (e : Nat) (r : Option Reply) : Neg × Said := { n with m := (n.m.act2 e).2 }.acts (n.m.act2 e).1 r
def Neg.act (n : Neg) (e : Int) : Neg × Said :=
 if e < 0 ∨ 3 < e then (n, mute) else if e = 0 then n.again.event 0 none else n.event e.toNat none
def Neg.tick (n : Neg) : Neg × Said := { n with m := n.m.tick.2 }.acts n.m.tick.1 none
def Neg.drop (n : Neg) : Neg × Said := ({ n with dropped := n.dropped + 1 }, mute)
def Neg.judged (n : Neg) (p : Pkt) (l : List Opt) : Neg × Said :=
 let j := judge n.rules l (decide (n.m.tries ≤ n.naks))
 let s := n.event (if j.1 = 2 then 6 else 7) (some ⟨p, j.1, j.2⟩)
 if j.1 = 2 ∧ (s.1.m.state = 8 ∨ s.1.m.state = 9) then ({ s.1 with theirs := l }, s.2) else s
def Neg.ask (n : Neg) (l : List Opt) : Neg := if (options l).1 = 0 then { n with first := l } else n
def Neg.mine (n : Neg) : List Opt := if n.m.state = 9 then n.acked else []
def Neg.given (n : Neg) : List Opt := if n.m.state = 9 then n.theirs else []
def newNeg (rules : List Rule) (ask : List Opt) (tries timeout : Nat) : Neg := ⟨rules, ask, ask, newMach tries timeout, 0, 0, 0, false, [], [], 0, []⟩
structure Neg.Like (n n' : Neg) : Prop where
 m : n'.m = n.m
 rules : n'.rules = n.rules
 first : n'.first = n.first
 acked : n'.acked = n.acked
 theirs : n'.theirs = n.theirs
 dropped : n'.dropped = n.dropped
theorem Neg.Like.refl (n : Neg) : Neg.Like n n := ⟨rfl, rfl, rfl, rfl, rfl, rfl⟩
theorem Neg.Like.trans {a b c : Neg} (h : Neg.Like a b) (k : Neg.Like b c) : Neg.Like a c := ⟨k.m.trans h.m, k.rules.trans h.rules, k.first.trans h.first, k.acked.trans h.acked, k.theirs.trans h.theirs, k.dropped.trans h.dropped⟩
theorem y7y (r : Option Reply) (s : Neg × Said) (a : Nat) : Neg.Like s.1 (y2u r s a).1 := by
 unfold y2u
 split
 ·exact Neg.Like.refl _
 ·exact Neg.Like.refl _
 ·exact ⟨rfl, rfl, rfl, rfl, rfl, rfl⟩
 ·exact Neg.Like.refl _
 ·exact ⟨rfl, rfl, rfl, rfl, rfl, rfl⟩
 ·cases r <;> exact ⟨rfl, rfl, rfl, rfl, rfl, rfl⟩
 ·cases r <;> exact ⟨rfl, rfl, rfl, rfl, rfl, rfl⟩
 ·exact ⟨rfl, rfl, rfl, rfl, rfl, rfl⟩
 ·cases r with
  | none => exact ⟨rfl, rfl, rfl, rfl, rfl, rfl⟩
  | some q =>
   show Neg.Like s.1 (if q.p.code = 5 then (s.1, s.2.more ⟨6, q.p.id, []⟩) else sendOwn s 6 []).1
   split
   ·exact Neg.Like.refl _
   ·exact ⟨rfl, rfl, rfl, rfl, rfl, rfl⟩
 ·cases r <;> exact ⟨rfl, rfl, rfl, rfl, rfl, rfl⟩
 ·exact Neg.Like.refl _
theorem acts_keeps (r : Option Reply) (l : List Nat) : ∀ s : Neg × Said, Neg.Like s.1 (l.foldl (y2u r) s).1 := by
 induction l with
 | nil => intro s; exact Neg.Like.refl _
 | cons a l ih =>
  intro s
  rw [List.foldl_cons]
  exact (y7y r s a).trans (ih _)
end Pure
namespace Pure
theorem u8_nat (n : Nat) (h : n < 256) : (UInt8.ofNat n).toNat = n := by rw [UInt8.toNat_ofNat']; omega
theorem y8i (o : Opt) (l : List Opt) : joined (o :: l) = UInt8.ofNat o.1.toNat :: UInt8.ofNat (o.2.length + 2) :: (o.2 ++ joined l) := by simp [joined, Opt.bytes]
theorem y84 (l : List Opt) : ∀ (acc : List Opt), (∀ o ∈ l, ¬ Opt.odd o) → acc.length + l.length ≤ 32 → y1g (joined l) acc = (0, acc ++ l) := by
 induction l with
 | nil => intro acc _ _; simp [joined, y7g]
 | cons o l ih =>
  intro acc ho hl
  obtain ⟨t, d⟩ := o
  have hodd : 0 ≤ t ∧ t ≤ 255 ∧ d.length ≤ 253 := by
   have := ho (t, d) (by simp)
   unfold Opt.odd at this
   dsimp only at this
   omega
  rw [y8i]
  dsimp only
  have h1 : (UInt8.ofNat (d.length + 2)).toNat = d.length + 2 := u8_nat _ (by omega)
  have h0 : (UInt8.ofNat t.toNat).toNat = t.toNat := u8_nat _ (by omega)
  simp only [List.length_cons] at hl
  rw [y6d (by simp) (by omega)]
  ·have e0 : (UInt8.ofNat t.toNat :: UInt8.ofNat (d.length + 2) :: (d ++ joined l)).getD 0 0 = UInt8.ofNat t.toNat := rfl
   have e1 : (UInt8.ofNat t.toNat :: UInt8.ofNat (d.length + 2) :: (d ++ joined l)).getD 1 0 = UInt8.ofNat (d.length + 2) := rfl
   rw [e0, e1, h0, h1]
   have ed : (UInt8.ofNat t.toNat :: UInt8.ofNat (d.length + 2) :: (d ++ joined l)).drop (d.length + 2) = joined l := by simp
   have et : ((UInt8.ofNat t.toNat :: UInt8.ofNat (d.length + 2) :: (d ++ joined l)).drop 2).take (d.length + 2 - 2) = d := by simp
   rw [ed, et, ih _ (fun o h => ho o (by simp [h])) (by rw [List.length_append]; simp only [List.length_cons, List.length_nil]; omega)]
   rw [show ((t.toNat : Nat) : Int) = t by omega]
   simp
  ·have e1 : (UInt8.ofNat t.toNat :: UInt8.ofNat (d.length + 2) :: (d ++ joined l)).getD 1 0 = UInt8.ofNat (d.length + 2) := rfl
   rw [e1, h1]
   simp
theorem y81 {l : List Opt} (h : (options l).1 = 0) : split (options l).2 = (0, l) ∧ l.length ≤ 32 ∧ ∀ o ∈ l, ¬ Opt.odd o := by
 unfold options at h ⊢
 split at h
 ·simp at h
 ·split at h
  ·simp at h
  ·rename_i h1 h2
   have ho : ∀ o ∈ l, ¬ Opt.odd o := fun o hm hodd => h2 ⟨o, hm, hodd⟩
   rw [if_neg h1, if_neg h2]
   refine ⟨?_, by omega, ho⟩
   have := y84 l [] ho (by simp; omega)
   simpa [split] using this
end Pure
namespace Pure
def begun (rules : List Rule) (ask : List Opt) (t u : Nat) : Neg := ⟨rules, ask, ask, ⟨6, t - 1, u, t, u⟩, 1, 1, 0, true, [], [], 0, (options ask).2⟩
def sends (l : List Pkt) : Said := ⟨l, false, false, false, false⟩
end Pure
namespace Pure
def deadRule : Rule := ⟨0, 0, 0, 0, 0, [], false⟩
theorem take_snoc {α : Type} (l : List α) (k : Nat) (o : α) (h : l[k]? = some o) : l.take (k + 1) = l.take k ++ [o] := by
 rw [List.take_add_one, h]
 rfl
end Pure
theorem flat_at {α : Type} (f : α → List Value) (n : Nat) (hf : ∀ a, (f a).length = n) (ps : List α) (k j : Nat) (p : α) (h : ps[k]? = some p) (hj : j < n) : (ps.flatMap f)[k * n + j]? = (f p)[j]? := by
 induction ps generalizing k with
 | nil => simp at h
 | cons q ps ih =>
  rw [List.flatMap_cons]
  rcases k with _ | k
  ·simp at h
   subst h
   rw [Nat.zero_mul, Nat.zero_add, List.getElem?_append_left (by rw [hf]; exact hj)]
  ·rw [List.getElem?_append_right (by rw [hf, Nat.add_mul]; omega), hf]
   have := ih k (by simpa using h)
   rw [← this]
   congr 1
   rw [Nat.add_mul]
   omega
abbrev y0c (p : Value × Pure.Rule) : List Value := [.int .i64 p.2.type, .int .i64 p.2.len, .int .i64 p.2.how, .int .i64 p.2.lo, .int .i64 p.2.hi, p.1, .bool p.2.need]
abbrev ruleV (p : Value × Pure.Rule) : Value := .agg (y0c p).toArray
abbrev y0a (ps : List (Value × Pure.Rule)) : List Value := ps.flatMap y0c
theorem y7c (ps : List (Value × Pure.Rule)) (k j : Nat) (p : Value × Pure.Rule) (h : ps[k]? = some p) (hj : j < 7) : (y0a ps)[k * 7 + j]? = (y0c p)[j]? := flat_at y0c 7 (fun _ => rfl) ps k j p h hj
structure RRow (w : World) (F : Nat → Prop) (x : Value) (ps : List (Value × Pure.Rule)) : Prop where
 out : Row w F 7 x ps.length (y0a ps)
 rows : ∀ p ∈ ps, Row w F 1 p.1 p.2.want.length (u8s p.2.want)
theorem RRow.keeps {S F : Nat → Prop} {w w' : World} {x : Value} {ps : List (Value × Pure.Rule)} (h : RRow w F x ps) (k : Keeps S w w') (hs : ∀ b, F b → ¬ S b) : RRow w' F x ps :=
 ⟨h.out.keeps k hs, fun p hp => (h.rows p hp).keeps k hs⟩
theorem RRow.mono {F G : Nat → Prop} {w : World} {x : Value} {ps : List (Value × Pure.Rule)} (h : RRow w F x ps) (hG : ∀ b, F b → G b) : RRow w G x ps :=
 ⟨h.out.mono hG, fun p hp => (h.rows p hp).mono hG⟩
theorem RRow.nil (w : World) (F : Nat → Prop) : RRow w F (.slice none 0 0) [] := ⟨Row.nil _ _ _, by simp⟩
theorem RRow.form {w : World} {F : Nat → Prop} {x : Value} {ps : List (Value × Pure.Rule)} (h : RRow w F x ps) : ∃ A c, x = .slice A ps.length c ∧ ps.length ≤ c := by
 obtain ⟨_, _, A, c, rfl, hc, _⟩ := h.out
 exact ⟨A, c, rfl, hc⟩
theorem RRow.pick {w : World} {F : Nat → Prop} {X : Option Addr} {n cx : Nat} {ps : List (Value × Pure.Rule)} (h : RRow w F (.slice X n cx) ps) (k : Nat) (hk : k < ps.length) :
  ∃ p o A c r, X = some ⟨p, o, none⟩ ∧ F p ∧ (∀ j u, (y0c (.slice A r.want.length c, r))[j]? = some u → w.cell? ⟨p, o + k * 7 + j, none⟩ = some u) ∧ Row w F 1 (.slice A r.want.length c) r.want.length (u8s r.want) ∧ ps[k]? = some (.slice A r.want.length c, r) := by
 obtain ⟨_, _, A', c', e, _, _, hh⟩ := h.out
 obtain ⟨p, o, rfl, hF, hc⟩ := hh (by omega)
 injection e with e1 _ _
 have hget := List.getElem?_eq_getElem hk
 have hr := h.rows ps[k] (List.getElem_mem hk)
 obtain ⟨A, c, hform, _⟩ := hr.form
 refine ⟨p, o, A, c, ps[k].2, e1, hF, fun j u hu => ?_, by rw [← hform]; exact hr, by rw [hget, ← hform]⟩
 rw [← hform] at hu
 have hj : j < 7 := (List.getElem?_eq_some_iff.1 hu).1
 rw [Nat.add_assoc]
 exact hc (k * 7 + j) u ((y7c ps k j _ hget hj).trans hu)
theorem y4q (F : Nat → Prop) (x : Value) (n : Nat) (l : List UInt8) (w : World) (hr : Row w F 1 x n (u8s l)) (hn : n ≤ 140737488355328) :
  Calls Tryz.prog 143 #[x] w fun e w' => ∃ v, e = .returned v ∧ w'.ownsRow w.heap.size 5 1 v n (u8s l) ∧ Below w.heap.size w w' := by
 obtain ⟨i0, hi0, hz0, hz1, hz2⟩ := info_parts y1w
 have hr' := hr
 obtain ⟨hl, hm, A, c, rfl, hc, hA, hcell⟩ := hr
 rcases A with _ | ad
 ·obtain rfl := hA rfl
  have hl0 : u8s l = [] := List.eq_nil_of_length_eq_zero (by simpa using hl)
  clear hcell hA hl
  have hq := fun (W : World) => Lib.run_eql_slice_nil (P := Tryz.prog) W 29 5 none 0 c 0 0 Tryz.underlying29
  go_enter Tryz.func143, Tryz.ntmps143
  go_wp2
  go_ret
  refine ⟨_, rfl, ⟨by rw [hl0]; rfl, .inl ⟨rfl, rfl⟩⟩, Below.refl _ _⟩
 ·have HL := xhd hl
  have hbw : Row (w.alloc (.cells #[] 5)) F 1 (.slice (some ad) n c) n (u8s l) :=
   hr'.cellsOf fun b off u _ hu => (World.cell?_alloc_lt w _ ⟨b, off, none⟩ (y0l hu)).trans hu
  clear hl hcell hA hr'
  have hq := fun (W : World) => Lib.run_eql_slice_nil (P := Tryz.prog) W 29 5 (some ad) n c 0 0 Tryz.underlying29
  go_enter Tryz.func143, Tryz.ntmps143
  go_wp2_with (at_builtin; refine y0d ?_)
  unfold Hid
  refine y0r rfl (.tmp 5) (.tmp 6) _ rfl w.heap.size 5 i0 _ 1 1 Tryz.underlying29 hi0 hz0 hz1 hz2 rfl (by omega) (.slice (some ⟨w.heap.size, 0, none⟩) 0 0) 0 []
   rfl (y3j _ _ _ _ (Nat.le_refl _)) F _ n (u8s l) rfl hbw (y2r l) (by omega) (by omega) (by simp) ?_
  intro v1 w1 hown1 hg1 hat1
  go_wp2
  go_ret
  refine ⟨v1, rfl, by simpa using hown1, ((Below.refl _ _).alloc (Nat.le_refl _) _).grown hg1 (by simp) ?_⟩
  intro k hk
  simp [Value.ownBlock] at hk
  omega
end Go.Proofs.YtmgicbckgpdkcaaGreatDoor
