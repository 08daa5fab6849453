/- The program's machine: start, perform, step. -/
import Derived.Test.YtgphfindolaljaaC7
namespace Go.Proofs.Ytgphfindolaljaa
set_option maxRecDepth 100000
set_option maxHeartbeats 8000000
open _root_.Go.Lib renaming hid → xhd
open List renaming setIfInBounds_toArray → xqA, getElem_toArray → xqB, getElem_cons_succ → xqC, getElem_cons_zero → xqD, set_cons_succ → xqE, set_cons_zero → xqF
open Go.RowKit
theorem y5v (g : Nat) (m : Pure.Mach) (w : World) (hm : y0o w g m) : Calls Try.prog 85 #[.pointer (some ⟨g, 0, none⟩)] w fun r w' => r = .returned (.tuple #[]) ∧ w' = w.setCell ⟨g, 4, none⟩ (.int .i64 (m.timeout : Nat)) := by
 have c1 : w.cell? ⟨g, 1, none⟩ = some (.int .i64 (m.timeout : Nat)) := by rw [Blk.cell hm]; rfl
 have c4 : w.cell? ⟨g, 4, none⟩ = some (.int .i64 (m.left : Nat)) := by rw [Blk.cell hm]; rfl
 have f4 : w.frozen? ⟨g, 4, none⟩ = false := Blk.frozen hm 4
 clear hm
 go_enter Try.func85, Try.ntmps85
 go_wp2
 go_end0
 exact ⟨rfl, rfl⟩
theorem y8b (g a : Nat) (m : Pure.Mach) (w : World) (hm : y0o w g m) (hc : m.count ≤ 1000) : Calls Try.prog 77 #[.pointer (some ⟨g, 0, none⟩), .int .i64 a] w fun r w' => r = .returned (.tuple #[]) ∧ y0o w' g (m.act a) ∧ Keeps (only g) w w' := by
 have c0 : w.cell? ⟨g, 0, none⟩ = some (.int .i64 (m.tries : Nat)) := by rw [Blk.cell hm]; rfl
 have c3 : w.cell? ⟨g, 3, none⟩ = some (.int .i64 (m.count : Nat)) := by rw [Blk.cell hm]; rfl
 have f3 : w.frozen? ⟨g, 3, none⟩ = false := Blk.frozen hm 3
 by_cases h4 : a = 4
 ·subst h4
  have HM' := xhd (show y0o (w.setCell ⟨g, 3, none⟩ (.int .i64 (m.tries : Nat))) g (m.act 4) from Blk.set hm 3 _)
  have HK' := xhd ((Keeps.refl (only g) w).store g 3 (fun _ => rfl) (.int .i64 (m.tries : Nat)))
  clear hm hc
  go_enter Try.func77, Try.ntmps77
  go_wp2
  go_end0
  exact ⟨rfl, HM'.out, HK'.out⟩
 ·have a4 : ((a : Int) == 4) = false := by rw [beq_eq_false_iff_ne]; omega
  by_cases h5 : a = 5
  ·subst h5
   have hB1 : y0o (w.setCell ⟨g, 3, none⟩ (.int .i64 0)) g { m with count := 0 } := Blk.set hm 3 _
   have HM' := xhd (show y0o ((w.setCell ⟨g, 3, none⟩ (.int .i64 0)).setCell ⟨g, 4, none⟩ (.int .i64 (m.timeout : Nat))) g (m.act 5) from Blk.set hB1 4 _)
   have HK' := xhd (((Keeps.refl (only g) w).store g 3 (fun _ => rfl) (.int .i64 0)).store g 4 (fun _ => rfl) (.int .i64 (m.timeout : Nat)))
   have HS := xhd (y5v g _ _ hB1)
   clear hB1 a4 hm hc h4
   go_enter Try.func77, Try.ntmps77
   go_wp2_with fail
   refine HS.out.mono ?_
   rintro r w1 ⟨rfl, rfl⟩
   go_wp2
   go_end0
   exact ⟨rfl, HM'.out, HK'.out⟩
  ·have a5 : ((a : Int) == 5) = false := by rw [beq_eq_false_iff_ne]; omega
   by_cases h6 : a = 6 ∨ a = 9
   ·have hB1 : y0o (w.setCell ⟨g, 3, none⟩ (.int .i64 ((m.count - 1 : Nat) : Int))) g { m with count := m.count - 1 } := Blk.set hm 3 _
    have HM' := xhd (show y0o ((w.setCell ⟨g, 3, none⟩ (.int .i64 ((m.count - 1 : Nat) : Int))).setCell ⟨g, 4, none⟩ (.int .i64 (m.timeout : Nat))) g (m.act a) by
     rw [show m.act a = { m with count := m.count - 1, left := m.timeout } by rcases h6 with rfl | rfl <;> rfl]
     exact Blk.set hB1 4 _)
    have HK' := xhd (((Keeps.refl (only g) w).store g 3 (fun _ => rfl) (.int .i64 ((m.count - 1 : Nat) : Int))).store g 4 (fun _ => rfl) (.int .i64 (m.timeout : Nat)))
    have HS := xhd (y5v g _ _ hB1)
    clear hB1 hm
    by_cases hc0 : m.count = 0
    ·rw [hc0] at c3 HM' HK' HS
     have c3 : w.cell? ⟨g, 3, none⟩ = some (.int .i64 0) := c3
     clear hc0 hc
     rcases h6 with rfl | rfl
     all_goals
      go_enter Try.func77, Try.ntmps77
      go_wp2_with fail
      refine HS.out.mono ?_
      rintro r w1 ⟨rfl, rfl⟩
      go_wp2
      go_end0
      exact ⟨rfl, HM'.out, HK'.out⟩
    ·obtain ⟨z, hz⟩ : ∃ z, m.count = z + 1 := ⟨m.count - 1, by omega⟩
     have hz1 : m.count - 1 = z := by omega
     rw [hz1] at HM' HK' HS
     rw [hz] at c3
     have e1 : ((z + 1 : Nat) : Int) - 1 = (z : Int) := by omega
     have lw : wrap64 (z : Int) = (z : Int) := IntWalk.wrap64_in _ (by omega)
     clear hc0 hz1
     rcases h6 with rfl | rfl
     all_goals
      go_enter Try.func77, Try.ntmps77
      go_wp2_with fail
      refine HS.out.mono ?_
      rintro r w1 ⟨rfl, rfl⟩
      go_wp2
      go_end0
      exact ⟨rfl, HM'.out, HK'.out⟩
   ·have ha : m.act a = m := act_other m a h4 h5 (fun h => h6 (.inl h)) (fun h => h6 (.inr h))
    have a6 : ((a : Int) == 6) = false := by rw [beq_eq_false_iff_ne]; omega
    have a9 : ((a : Int) == 9) = false := by rw [beq_eq_false_iff_ne]; omega
    have HM' := xhd (show y0o w g (m.act a) by rw [ha]; exact hm)
    clear ha hm h4 h5 h6
    go_enter Try.func77, Try.ntmps77
    go_wp2
    go_end0
    exact ⟨rfl, HM'.out, Keeps.refl _ _⟩
theorem y2d (g n : Nat) (e : Int) (l : List Nat) (m : Pure.Mach) (w : World) (hm : y0o w g m) (hn : n ≤ 9) (hl : Pure.fsmStep m.state e = (l, (n : Int))) (hc : m.count ≤ m.tries) (ht : m.tries ≤ 1000) :
  Calls Try.prog 69 #[.pointer (some ⟨g, 0, none⟩), .int .i64 e] w fun r w' => ∃ A c, r = .returned (.slice A l.length c) ∧ Row w' (fun b => w.heap.size ≤ b) 1 (.slice A l.length c) l.length (ints l) ∧ y0o w' g ((l.foldl Pure.Mach.act { m with state := n }).rest) ∧ Keeps (only g) w w' := by
 have hgl : g < w.heap.size := hm.lt
 have HS0 := y67 m.state e w
 rw [hl] at HS0
 have HS := xhd HS0
 have HM := xhd hm
 have c2 : w.cell? ⟨g, 2, none⟩ = some (.int .i64 (m.state : Nat)) := by rw [Blk.cell hm]; rfl
 obtain ⟨M', hM'⟩ : ∃ M', M' = (l.foldl Pure.Mach.act { m with state := n }).rest := ⟨_, rfl⟩
 rw [← hM']
 have HST := xhd hM'
 clear hl hm HS0 hM'
 go_enter Try.func69, Try.ntmps69
 go_wp2_with fail
 refine HS.out.mono ?_
 rintro r w2 ⟨A, c, rfl, hu, hb⟩
 have hk2 := Keeps.new hb
 have hm2 := HM.out.keeps hk2 (fun h => h)
 have f0 := Blk.frozen hm2 2
 have d0 : w2.cell? ⟨g, 2, none⟩ = some (.int .i64 (m.state : Nat)) := by rw [Blk.cell hm2]; rfl
 have HU := xhd hu
 have HK2 := xhd hk2
 have HM2 := xhd (show y0o (w2.setCell ⟨g, 2, none⟩ (.int .i64 (n : Nat))) g { m with state := n } from Blk.set hm2 2 _)
 clear hu hb hk2 hm2 HS HM c2
 go_upto_region 3 with fail
 generalize hw3 : w2.setCell _ _ = w3 at HM2 ⊢
 have hk3 : Keeps (only g) w2 w3 := by rw [← hw3]; exact (Keeps.refl (only g) w2).store g 2 (fun _ => rfl) _
 have hug : ∀ b, w.heap.size ≤ b → ¬ only g b := fun b hb h => by have h2 : b = g := h; omega
 have HU3 := xhd (HU.out.keeps hk3 hug)
 have HK3 := xhd ((HK2.out.mono (T := only g) (fun i h => h.elim)).trans hk3)
 have HUG := xhd hug
 clear hw3 hk3 HU HK2 f0 d0 hug
 obtain ⟨M0, hM0⟩ : ∃ M0 : Pure.Mach, M0 = { m with state := n } := ⟨_, rfl⟩
 rw [← hM0] at HM2 HST
 have HM0 := xhd (show M0.state = n ∧ M0.count ≤ M0.tries ∧ M0.tries ≤ 1000 by rw [hM0]; exact ⟨rfl, hc, ht⟩)
 clear hc ht
 clear hM0
 go_wp2_with fail
 go_loopw [24] (fun i wr => ∃ k : Nat, k ≤ l.length ∧ i = .int .i64 (k : Int) ∧ y0o wr g ((l.take k).foldl Pure.Mach.act M0) ∧ Keeps (only g) w3 wr) (fun i _ => l.length - (intOf i).toNat)
 case atStart => exact ⟨0, by omega, rfl, HM2.out, Keeps.refl _ _⟩
 case round =>
  obtain ⟨k, hk, rfl, hM, hK⟩ := hrel
  obtain ⟨M, hMd⟩ : ∃ M, M = (l.take k).foldl Pure.Mach.act M0 := ⟨_, rfl⟩
  rw [← hMd] at hM
  have HMW := xhd hM
  have HKW := xhd hK
  have hml : l.length ≤ maxLen := HU3.out.2.1
  unfold maxLen at hml
  by_cases hkl : k < l.length
  ·have d0 : decide ((k : Int) < (l.length : Int)) = true := decide_eq_true (by omega)
   have d1 : decide (k < l.length) = true := decide_eq_true hkl
   have k0 : (0 : Int) ≤ (k : Int) := by omega
   have k1 : (k : Int) < (l.length : Int) := by omega
   obtain ⟨b, off, rfl, hFb, hcell⟩ := (HU3.out.keeps hK HUG.out).ints_at k hkl
   obtain ⟨a, ha⟩ : ∃ a, a = l.getD k 0 := ⟨_, rfl⟩
   rw [← ha] at hcell
   have HTk := xhd (show (l.take (k + 1)).foldl Pure.Mach.act M0 = M.act a by rw [take_snoc l 0 k hkl, List.foldl_append, ← hMd, ← ha]; rfl)
   have HP := xhd (y8b g a M wr hM (by
    obtain ⟨_, k2, _, k4, _⟩ := Pure.act_keeps (l.take k) M0
    have h1 := k4 HM0.out.2.1
    rw [← hMd] at h1
    have := HM0.out.2.2
    omega))
   clear hM hK hMd ha hFb
   go_wp2_with fail
   refine HP.out.mono ?_
   rintro r w5 ⟨rfl, hm5, hk5⟩
   have HM5 := xhd hm5
   have HK5 := xhd (HKW.out.trans hk5)
   clear hm5 hk5 hcell
   go_wp2_with fail
   go_roundw
   case rel => exact ⟨k + 1, by omega, by go_num, by rw [HTk.out]; exact HM5.out, HK5.out⟩
   case measure => simp [intOf]; omega
  ·have hkk : k = l.length := by omega
   subst hkk
   have d0 : decide ((l.length : Int) < (l.length : Int)) = false := decide_eq_false (by omega)
   have d1 : decide (l.length < l.length) = false := decide_eq_false (by omega)
   rw [List.take_length] at hMd
   have hst : M.state = n := by rw [hMd, (Pure.act_keeps l M0).1]; exact HM0.out.1
   have HST' := xhd (show M' = M.rest by rw [HST.out, hMd])
   have hg4 : wr.cell? ⟨g, 4, none⟩ = some (.int .i64 (M.left : Nat)) := by rw [Blk.cell hM]; rfl
   have y4 := Blk.frozen hM 4
   have HU4 := xhd (HU3.out.keeps hK HUG.out)
   have HKE := xhd (HK3.out.trans hK)
   have HSn := xhd hst
   have HT := y5w n wr
   clear hM hK hMd hst HU3 hkl hk HM2 HM0 HST
   by_cases hr : n < 4 ∨ n = 9
   ·have HR := xhd (show M.rest = { M with left := 0 } by unfold Pure.Mach.rest; rw [HSn.out, if_pos hr])
    have HM' := xhd (show y0o (wr.setCell ⟨g, 4, none⟩ (.int .i64 0)) g M.rest by rw [HR.out]; exact Blk.set HMW.out 4 _)
    have HK' := xhd (HKE.out.store g 4 (fun _ => rfl) (.int .i64 0))
    have HO' := xhd (HU4.out.keeps ((Keeps.refl (only g) wr).store g 4 (fun _ => rfl) (.int .i64 0)) HUG.out)
    rw [decide_eq_false (show ¬ (4 ≤ (n : Int) ∧ (n : Int) ≤ 8) by omega)] at HT
    have HT := xhd HT
    clear hr
    go_wp2_with fail
    refine HT.out.mono ?_
    rintro r w5 ⟨rfl, rfl⟩
    go_wp2
    go_ret
    exact ⟨_, _, rfl, HO'.out, by rw [HST'.out]; exact HM'.out, HK'.out⟩
   ·have HR := xhd (show M.rest = M by unfold Pure.Mach.rest; rw [HSn.out, if_neg hr])
    rw [decide_eq_true (show 4 ≤ (n : Int) ∧ (n : Int) ≤ 8 by omega)] at HT
    have HT := xhd HT
    clear hr
    go_wp2_with fail
    refine HT.out.mono ?_
    rintro r w5 ⟨rfl, rfl⟩
    go_wp2
    go_ret
    exact ⟨_, _, rfl, HU4.out, by rw [HST'.out, HR.out]; exact HMW.out, HKE.out⟩
namespace Pure
theorem rest_good {m : Mach} (h : m.Good) : ({ m with state := m.state } : Mach).rest = m := by
 unfold Mach.rest
 split
 ·rename_i hr
  have := h.rest hr
  cases m
  simp at this ⊢
  exact this.symm
 ·rfl
end Pure
theorem prog_event (g e : Nat) (m : Pure.Mach) (w : World) (hm : y0o w g m) (hs : m.state ≤ 9) (he : e < 16) (hc : m.count ≤ m.tries) (ht : m.tries ≤ 1000) :
  Calls Try.prog 69 #[.pointer (some ⟨g, 0, none⟩), .int .i64 e] w fun r w' => ∃ A c, r = .returned (.slice A (m.step e).1.length c) ∧ Row w' (fun b => w.heap.size ≤ b) 1 (.slice A (m.step e).1.length c) (m.step e).1.length (ints (m.step e).1) ∧ y0o w' g (m.step e).2 ∧ Keeps (only g) w w' :=
 y2d g (Pure.fsmAt m.state e).2 e (Pure.fsmAt m.state e).1 m w hm (Pure.fsmAt_le m.state (by omega) e he).1 (y44 m.state e (by omega) he) hc ht
theorem prog_other (g : Nat) (e : Int) (m : Pure.Mach) (w : World) (hm : y0o w g m) (hg : m.Good) (he : ¬ (0 ≤ e ∧ e < 16)) (ht : m.tries ≤ 1000) :
  Calls Try.prog 69 #[.pointer (some ⟨g, 0, none⟩), .int .i64 e] w fun r w' => ∃ A c, r = .returned (.slice A ([] : List Nat).length c) ∧ Row w' (fun b => w.heap.size ≤ b) 1 (.slice A ([] : List Nat).length c) ([] : List Nat).length (ints []) ∧ y0o w' g m ∧ Keeps (only g) w w' := by
 have := y2d g m.state e [] m w hm hg.state (y3c (by omega)) hg.count ht
 rw [List.foldl_nil, Pure.rest_good hg] at this
 exact this
theorem y3i (g : Nat) (e : Int) (m : Pure.Mach) (w : World) (hm : y0o w g m) (hg : m.Good) (ht : m.tries ≤ 1000) :
  Calls Try.prog 46 #[.pointer (some ⟨g, 0, none⟩), .int .i64 e] w fun r w' => ∃ A c, r = .returned (.slice A (m.act2 e).1.length c) ∧ Row w' (fun b => w.heap.size ≤ b) 1 (.slice A (m.act2 e).1.length c) (m.act2 e).1.length (ints (m.act2 e).1) ∧ y0o w' g (m.act2 e).2 ∧ Keeps (only g) w w' := by
 have HMD := xhd (made_any g m w hm hg.tries)
 by_cases h45 : e = 4 ∨ e = 5
 ·have hA : m.act2 e = ([], m) := by rcases h45 with rfl | rfl <;> rfl
  rw [hA]
  have HM := xhd hm
  clear hA hm hg ht
  rcases h45 with rfl | rfl
  all_goals
   go_enter Try.func46, Try.ntmps46
   go_wp2_with fail
   refine HMD.out.mono ?_
   rintro r w1 ⟨rfl, rfl⟩
   go_wp2
   go_ret
   exact ⟨_, _, rfl, Row.nil _ _ _, HM.out, Keeps.refl _ _⟩
 ·have q4 : (e == 4) = false := by rw [beq_eq_false_iff_ne]; omega
  have q5 : (e == 5) = false := by rw [beq_eq_false_iff_ne]; omega
  have HS : ∃ l M', m.act2 e = (l, M') ∧ Calls Try.prog 69 #[.pointer (some ⟨g, 0, none⟩), .int .i64 e] w fun r w' => ∃ A c, r = .returned (.slice A l.length c) ∧ Row w' (fun b => w.heap.size ≤ b) 1 (.slice A l.length c) l.length (ints l) ∧ y0o w' g M' ∧ Keeps (only g) w w' := by
   by_cases he : 0 ≤ e ∧ e < 16
   ·obtain ⟨n, rfl⟩ : ∃ n : Nat, e = (n : Int) := ⟨e.toNat, by omega⟩
    exact ⟨_, _, Pure.act2_step (show Pure.does (n : Int) by unfold Pure.does; omega) m, prog_event g n m w hm hg.state (by omega) hg.count ht⟩
   ·exact ⟨[], m, if_neg (show ¬ Pure.does e by unfold Pure.does; omega), prog_other g e m w hm hg he ht⟩
  obtain ⟨l, M', hA, HS⟩ := HS
  rw [hA]
  have HS := xhd HS
  clear hA hm hg ht h45
  go_enter Try.func46, Try.ntmps46
  go_wp2_with fail
  refine HMD.out.mono ?_
  rintro r w1 ⟨rfl, rfl⟩
  go_wp2_with fail
  refine HS.out.mono ?_
  rintro r w2 ⟨A, c, rfl, hu, hm2, hk⟩
  have HU := xhd hu
  have HM := xhd hm2
  have HK := xhd hk
  clear hu hm2 hk HS
  go_wp2
  go_ret
  exact ⟨A, c, rfl, HU.out, HM.out, HK.out⟩
namespace Pure
structure Fine (l : List Opt) : Prop where
 len : l.length ≤ 32
 odd : ∀ o ∈ l, ¬ Opt.odd o
theorem fine_options {l : List Opt} (h : Fine l) : (options l).1 = 0 := by rw [options_ok (by have := h.len; omega) h.odd]
theorem fine_split {l : List Opt} (h : Fine l) : split (options l).2 = (0, l) := (y6k (fine_options h)).1
theorem fine_nil : Fine [] := ⟨by simp, by simp⟩
end Pure
structure GM where
 m : Nat
 j : Value
instance : Coe GM Nat := ⟨GM.m⟩
abbrev y38 (g : Nat) : Value := .func (.func 42) #[.pointer (some ⟨g, 0, none⟩)] #[]
structure NF where
 gm : GM
 rules : Value
 tries : Nat
 first : Value
 request : Value
 aid : Nat
 aopts : Value
 aopen : Bool
 id : Nat
 naks : Nat
 mine : Value
 given : Value
 dropped : Nat
abbrev NF.list (f : NF) : List Value := [.pointer (some ⟨f.gm, 0, none⟩), f.rules, f.gm.j, .int .i64 (f.tries : Int), f.first, f.request, .int .i64 (f.aid : Int), f.aopts, .bool f.aopen, .int .i64 (f.id : Int), .int .i64 (f.naks : Int), f.mine, f.given, .int .i64 (f.dropped : Int)]
def NBlk (w : World) (g : Nat) (f : NF) : Prop := Blk w g 83 f.list.toArray
theorem NBlk.cell {w : World} {g : Nat} {f : NF} (h : NBlk w g f) (j : Nat) : w.cell? ⟨g, j, none⟩ = f.list[j]? := by
 have : Blk w g 83 f.list.toArray := h
 rw [this.cell, List.getElem?_toArray]
theorem NBlk.frozen {w : World} {g : Nat} {f : NF} (h : NBlk w g f) (j : Nat) : w.frozen? ⟨g, j, none⟩ = false := Blk.frozen h j
theorem NBlk.keeps {S : Nat → Prop} {w w' : World} {g : Nat} {f : NF} (h : NBlk w g f) (k : Keeps S w w') (hs : ¬ S g) : NBlk w' g f := Blk.keeps h k hs
theorem NBlk.lt {w : World} {g : Nat} {f : NF} (h : NBlk w g f) : g < w.heap.size := Blk.lt h
theorem Keeps.put {a w : World} {g : Nat} (h : Keeps (only g) a w) (i : Nat) (u : Value) : Keeps (only g) a (w.setCell ⟨g, i, none⟩ u) := h.store g i (fun _ => only_self g) u
theorem y1r : (Try.prog.info? 51).map (·.size) = some 3 := by kernel_rfl
theorem y5r (g : Nat) (f : NF) (w : World) (h : NBlk w g f) : Calls Try.prog 44 #[.pointer (some ⟨g, 0, none⟩)] w fun e w' => e = .returned (.bool true) ∧ w = w' := by
 have c0 : w.cell? ⟨g, 0, none⟩ = some (.pointer (some ⟨f.gm, 0, none⟩)) := h.cell 0
 clear h
 go_enter Try.func44, Try.ntmps44
 go_wp2_with fail
 go_ret
 exact ⟨rfl, rfl⟩
theorem own_as (g : Nat) (f : NF) (code : Int) (A : Option Addr) (n c id' : Nat) (w : World) (h : NBlk w g f) (hid : f.id < 256) (hid' : id' = (f.id + 1) % 256) :
  Calls Try.prog 65 #[.pointer (some ⟨g, 0, none⟩), .int .i64 code, .slice A n c] w fun e w' => e = .returned (.agg #[.int .i64 code, .int .i64 (id' : Int), .slice A n c]) ∧ NBlk w' g { f with id := id' } ∧ Keeps (only g) w w' := by
 have hgl := h.lt
 have HI := xhd y1r
 obtain ⟨r, hr⟩ : ∃ r, r = w.heap.size := ⟨_, rfl⟩
 go_enter Try.func65, Try.ntmps65
 go_upto_region 1 with fail
 rw [← hr]
 generalize hw1 : w.alloc _ = w1
 have hk1 : Keeps y02 w w1 := by rw [← hw1]; exact (Keeps.refl _ w).alloc _
 have hB : Blk w1 r 51 #[.int .i64 0, .int .i64 0, .slice none 0 0] := by rw [← hw1, hr]; exact Blk.new w _ _
 have h1 : Blk w1 g 83 f.list.toArray := h.keeps hk1 (fun h => h)
 have h2 := h1.set 9 (.int .i64 (id' : Int))
 have HB2 := xhd (hB.far (p := ⟨g, 9, none⟩) (by show r ≠ g; omega) (.int .i64 (id' : Int)))
 have HK2 := xhd (show Keeps (only g) w (w1.setCell ⟨g, 9, none⟩ (.int .i64 (id' : Int))) from (hk1.mono (fun _ h => h.elim)).put 9 _)
 have c8 : w1.cell? ⟨g, 9, none⟩ = some (.int .i64 (f.id : Int)) := by rw [h1.cell]; rfl
 have f8 := h1.frozen 9
 have e1 : wrap64 ((f.id : Int) + 1) = ((f.id + 1 : Nat) : Int) := by rw [IntWalk.wrap64_in _ (by omega)]; omega
 have e2 : ((f.id + 1 : Nat) : Int).tmod 256 = (id' : Int) := by rw [hid', Int.tmod_eq_emod_of_nonneg (by omega)]; omega
 have e3 : ((f.id : Int) + 1).tmod 256 = (id' : Int) := by rw [hid', Int.tmod_eq_emod_of_nonneg (by omega)]; omega
 have HN := xhd (show NBlk (w1.setCell ⟨g, 9, none⟩ (.int .i64 (id' : Int))) g { f with id := id' } from h2)
 have d8 : (w1.setCell ⟨g, 9, none⟩ (.int .i64 (id' : Int))).cell? ⟨g, 9, none⟩ = some (.int .i64 (id' : Int)) := by rw [HN.out.cell]; rfl
 have HR := xhd hr
 clear hw1 hk1 h h1 h2 hB hr hid'
 go_upto_region 2 with fail
 generalize hw2 : w1.setCell _ _ = w2 at *
 have hB2 := HB2.out
 have o0 : w2.cell? ⟨r, 0, none⟩ = some (.int .i64 0) := by rw [hB2.cell]; rfl
 have o1 : w2.cell? ⟨r, 1, none⟩ = some (.int .i64 0) := by rw [hB2.cell]; rfl
 have o2 : w2.cell? ⟨r, 2, none⟩ = some (.slice none 0 0) := by rw [hB2.cell]; rfl
 have g0 := hB2.frozen 0
 have g1 := hB2.frozen 1
 have g2 := hB2.frozen 2
 have HZ := xhd (((hB2.set 0 (.int .i64 code)).set 1 (.int .i64 (id' : Int))).set 2 (.slice A n c))
 have KS := ((((Keeps.refl (only r) w2).put 0 (.int .i64 code)).put 1 (.int .i64 (id' : Int))).put 2 (.slice A n c))
 have HKS := xhd (show Keeps (only g) w _ from HK2.out.trans' KS (fun i hi hl => by have e : i = r := hi; have := HR.out; omega))
 have HNS := xhd (HN.out.keeps KS (fun e => by have e : g = r := e; have := HR.out; omega))
 clear hw2 hB2 KS c8 f8 e1 e2 e3
 go_wp2_with fail
 refine bodyPost_ret (y0l rfl _ _ r 51 _ (0, 0) _ rfl HZ.out Try.underlying51 rfl (by rw [HI.out]; rfl)) rfl ?_
 exact ⟨rfl, HNS.out, HKS.out⟩
theorem y2q (F : Nat → Prop) (g : Nat) (f : NF) (zs : List (Value × Pure.Opt)) (w : World) (h : NBlk w g f) (hx : ORow w F f.first zs) (hfx : FewOpts zs) :
  Calls Try.prog 43 #[.pointer (some ⟨g, 0, none⟩)] w fun e w' => e = .returned (.tuple #[]) ∧ ∃ u, ∃ qs : List (Value × Pure.Opt), y01 qs = y01 zs ∧ ORow w' (fun b => w.heap.size ≤ b) u qs ∧ NBlk w' g { f with request := u, naks := 0 } ∧ Keeps (only g) w w' := by
 have HCP := xhd (y16 F f.first zs w hx hfx.len hfx.data)
 have H := xhd h
 have hgl := h.lt
 obtain ⟨X, cx, hX, _⟩ := hx.form
 have c3 : w.cell? ⟨g, 4, none⟩ = some f.first := h.cell 4
 rw [hX] at HCP c3
 clear h hx hfx
 go_enter Try.func43, Try.ntmps43
 go_wp2_with fail
 refine HCP.out.mono ?_
 rintro e w1 ⟨u, qs, rfl, hqs, hrd⟩
 obtain ⟨A, c, rfl⟩ := y0b hrd.own
 have hk1 : Keeps y02 w w1 := Keeps.new hrd.below
 have h1 : Blk w1 g 83 f.list.toArray := H.out.keeps hk1 (fun h => h)
 have HQS := xhd hqs
 have c4 : w1.cell? ⟨g, 5, none⟩ = some f.request := by rw [h1.cell]; rfl
 have f4 := h1.frozen 5
 have h2 : Blk (w1.setCell ⟨g, 5, none⟩ (.slice A qs.length c)) g 83 ({ f with request := .slice A qs.length c } : NF).list.toArray := h1.set 5 (.slice A qs.length c)
 have HK2 := xhd (show Keeps (only g) w (w1.setCell ⟨g, 5, none⟩ (.slice A qs.length c)) from (hk1.mono (fun _ h => h.elim)).put 5 _)
 have HR2 := xhd (hrd.row.keeps ((Keeps.refl (only g) w1).put 5 (.slice A qs.length c)) (fun b hb e => by have e : b = g := e; omega))
 have d9 : (w1.setCell ⟨g, 5, none⟩ (.slice A qs.length c)).cell? ⟨g, 10, none⟩ = some (.int .i64 (f.naks : Int)) := by rw [h2.cell]; rfl
 have g9 := h2.frozen 10
 have HN := xhd (show NBlk ((w1.setCell ⟨g, 5, none⟩ (.slice A qs.length c)).setCell ⟨g, 10, none⟩ (.int .i64 0)) g { f with request := .slice A qs.length c, naks := 0 } from h2.set 10 (.int .i64 0))
 have HK3 := xhd (HK2.out.put 10 (.int .i64 0))
 have HR3 := xhd (HR2.out.keeps ((Keeps.refl (only g) (w1.setCell ⟨g, 5, none⟩ (.slice A qs.length c))).put 10 (.int .i64 0)) (fun b hb e => by have e : b = g := e; omega))
 clear hqs hrd hk1 h1 h2 HR2 HK2 c3 HCP H
 go_wp2_with fail
 go_end0
 exact ⟨rfl, _, qs, HQS.out, HR3.out, HN.out, HK3.out⟩
abbrev causeV (p : Pure.Pkt) (d : Value) (code : Int) (ov : Value) : Value := .agg #[.int .i64 p.code, .int .i64 p.id, d, .int .i64 code, ov]
theorem y5j (g : Nat) (f : NF) (p : Pure.Pkt) (d : Value) (code : Int) (ov : Value) (w : World) (h : NBlk w g f) (hp : p.code = 5) :
  Calls Try.prog 66 #[.pointer (some ⟨g, 0, none⟩), causeV p d code ov] w fun e w' => e = .returned (.agg #[.int .i64 6, .int .i64 p.id, .slice none 0 0]) ∧ NBlk w' g f ∧ Keeps (only g) w w' := by
 have HI := xhd y1r
 obtain ⟨rc, hrc⟩ : ∃ r, r = w.heap.size := ⟨_, rfl⟩
 obtain ⟨pc, pi, pd⟩ := p
 dsimp only at hp ⊢
 subst hp
 have hgl := h.lt
 go_enter Try.func66, Try.ntmps66
 go_upto_region 1 with fail
 rw [← hrc]
 generalize hw1 : (w.alloc _).alloc _ = w1
 have hk1 : Keeps y02 w w1 := by rw [← hw1]; exact ((Keeps.refl _ w).alloc _).alloc _
 have hC : Blk w1 rc 88 #[.int .i64 5, .int .i64 pi, d, .int .i64 code, ov] := by rw [← hw1, hrc]; exact (Blk.new w _ _).alloc _
 have hO : Blk w1 (rc + 1) 51 #[.int .i64 0, .int .i64 0, .slice none 0 0] := by
  rw [← hw1, show rc + 1 = (w.alloc (.cells #[.int .i64 5, .int .i64 pi, d, .int .i64 code, ov] 88)).heap.size by rw [hrc]; simp]
  exact Blk.new _ _ _
 have c0 : w1.cell? ⟨rc, 0, none⟩ = some (.int .i64 5) := by rw [hC.cell]; rfl
 have c1 : w1.cell? ⟨rc, 1, none⟩ = some (.int .i64 pi) := by rw [hC.cell]; rfl
 have o0 : w1.cell? ⟨rc + 1, 0, none⟩ = some (.int .i64 0) := by rw [hO.cell]; rfl
 have o1 : w1.cell? ⟨rc + 1, 1, none⟩ = some (.int .i64 0) := by rw [hO.cell]; rfl
 have o2 : w1.cell? ⟨rc + 1, 2, none⟩ = some (.slice none 0 0) := by rw [hO.cell]; rfl
 have g0 := hO.frozen 0
 have g1 := hO.frozen 1
 have g2 := hO.frozen 2
 have HZ := xhd (((hO.set 0 (.int .i64 6)).set 1 (.int .i64 pi)).set 2 (.slice none 0 0))
 have KR := (((Keeps.refl (only (rc + 1)) w1).put 0 (.int .i64 6)).put 1 (.int .i64 pi)).put 2 (.slice none 0 0)
 have HN := xhd ((h.keeps hk1 (fun h => h)).keeps KR (fun e => by have e : g = rc + 1 := e; omega))
 have HK := xhd (show Keeps (only g) w _ from (hk1.mono (fun _ h => h.elim)).trans' KR (fun i hi hl => by have e : i = rc + 1 := hi; omega))
 clear hw1 hk1 hC hO KR h hrc hgl
 go_wp2_with fail
 refine bodyPost_ret (y0l rfl _ _ (rc + 1) 51 _ (0, 0) _ rfl HZ.out Try.underlying51 rfl (by rw [HI.out]; rfl)) rfl ?_
 exact ⟨rfl, HN.out, HK.out⟩
theorem y5i (g : Nat) (f : NF) (p : Pure.Pkt) (d : Value) (code : Int) (ov : Value) (id' : Nat) (w : World) (h : NBlk w g f) (hid : f.id < 256) (hid' : id' = (f.id + 1) % 256) (hp : p.code ≠ 5) :
  Calls Try.prog 66 #[.pointer (some ⟨g, 0, none⟩), causeV p d code ov] w fun e w' => e = .returned (.agg #[.int .i64 6, .int .i64 (id' : Int), .slice none 0 0]) ∧ NBlk w' g { f with id := id' } ∧ Keeps (only g) w w' := by
 have HI := xhd y1r
 obtain ⟨rc, hrc⟩ : ∃ r, r = w.heap.size := ⟨_, rfl⟩
 obtain ⟨pc, pi, pd⟩ := p
 dsimp only at hp ⊢
 have q5 : (pc == 5) = false := by rw [beq_eq_false_iff_ne]; exact hp
 have hgl := h.lt
 go_enter Try.func66, Try.ntmps66
 go_upto_region 1 with fail
 rw [← hrc]
 generalize hw1 : (w.alloc _).alloc _ = w1
 have hk1 : Keeps y02 w w1 := by rw [← hw1]; exact ((Keeps.refl _ w).alloc _).alloc _
 have hC : Blk w1 rc 88 #[.int .i64 pc, .int .i64 pi, d, .int .i64 code, ov] := by rw [← hw1, hrc]; exact (Blk.new w _ _).alloc _
 have hO : Blk w1 (rc + 1) 51 #[.int .i64 0, .int .i64 0, .slice none 0 0] := by
  rw [← hw1, show rc + 1 = (w.alloc (.cells #[.int .i64 pc, .int .i64 pi, d, .int .i64 code, ov] 88)).heap.size by rw [hrc]; simp]
  exact Blk.new _ _ _
 have HOW := xhd (own_as g f 6 none 0 0 id' w1 (h.keeps hk1 (fun h => h)) hid hid')
 have c0 : w1.cell? ⟨rc, 0, none⟩ = some (.int .i64 pc) := by rw [hC.cell]; rfl
 have HO := xhd hO
 have HK1 := xhd hk1
 have HRC := xhd hrc
 have HGL := xhd hgl
 clear hw1 hk1 hC hO h hid hid' hp hrc hgl
 go_wp2_with fail
 refine HOW.out.mono ?_
 rintro e w2 ⟨rfl, hn2, hk2⟩
 have hO := HO.out.keeps hk2 (fun e => by have e : rc + 1 = g := e; have := HRC.out; have := HGL.out; omega)
 have o0 : w2.cell? ⟨rc + 1, 0, none⟩ = some (.int .i64 0) := by rw [hO.cell]; rfl
 have o1 : w2.cell? ⟨rc + 1, 1, none⟩ = some (.int .i64 0) := by rw [hO.cell]; rfl
 have o2 : w2.cell? ⟨rc + 1, 2, none⟩ = some (.slice none 0 0) := by rw [hO.cell]; rfl
 have g0 := hO.frozen 0
 have g1 := hO.frozen 1
 have g2 := hO.frozen 2
 have HZ := xhd (((hO.set 0 (.int .i64 6)).set 1 (.int .i64 (id' : Int))).set 2 (.slice none 0 0))
 have KR := (((Keeps.refl (only (rc + 1)) w2).put 0 (.int .i64 6)).put 1 (.int .i64 (id' : Int))).put 2 (.slice none 0 0)
 have HN := xhd (hn2.keeps KR (fun e => by have e : g = rc + 1 := e; have := HRC.out; have := HGL.out; omega))
 have HK := xhd (show Keeps (only g) w _ from ((HK1.out.mono (fun _ h => h.elim)).trans hk2).trans' KR (fun i hi hl => by have e : i = rc + 1 := hi; have := HRC.out; omega))
 clear hO KR hn2 hk2 c0
 go_wp2_with fail
 refine bodyPost_ret (y0l rfl _ _ (rc + 1) 51 _ (0, 0) _ rfl HZ.out Try.underlying51 rfl (by rw [HI.out]; rfl)) rfl ?_
 exact ⟨rfl, HN.out, HK.out⟩
theorem y6n (F : Nat → Prop) (v : Value) (p : Pure.Pkt) (w : World) (hF : ∀ b, F b → b < w.heap.size) (hr : Row w F 1 v p.data.length (u8s p.data)) :
  Calls Try.prog 67 #[pktV p v] w fun e w' => ∃ A c, e = .returned (.slice A ((Pure.encode p).2.take 1496).length c) ∧ Row w' (fun b => w.heap.size ≤ b) 1 (.slice A ((Pure.encode p).2.take 1496).length c) ((Pure.encode p).2.take 1496).length (u8s ((Pure.encode p).2.take 1496)) ∧ Keeps y02 w w' := by
 have hk0 := (Keeps.refl y02 w).alloc (.cells #[.int .i64 p.code, .int .i64 p.id, v] 51)
 have HE := xhd (encode_any F v p (w.alloc (.cells #[.int .i64 p.code, .int .i64 p.id, v] 51)) (fun b hb => Nat.lt_of_lt_of_le (hF b hb) hk0.size) (hr.keeps hk0 (fun _ _ h => h)))
 have HK0 := xhd hk0
 obtain ⟨A0, c0, rfl, _⟩ := hr.form
 obtain ⟨L, hL⟩ : ∃ L, L = (Pure.encode p).2 := ⟨_, rfl⟩
 rw [← hL] at HE ⊢
 clear hF hr hk0 hL
 by_cases hl : L.length ≤ 1496
 ·have ht : L.take 1496 = L := List.take_of_length_le hl
  rw [ht]
  have e1 : min (L.length : Int) 1496 = (L.length : Int) := by omega
  have i3 : ¬ (1496 : Int) < (L.length : Int) := by omega
  have i4 : (L.length : Int) ≤ 1496 := by omega
  clear ht
  go_enter Try.func67, Try.ntmps67
  go_wp2_with fail
  refine HE.out.mono ?_
  rintro e w1 ⟨u, rfl, hu, hb⟩
  obtain ⟨A, c, rfl⟩ := y0b hu
  have hrow := (Row.of_own hu).mono (G := fun b => w.heap.size ≤ b) (fun b hb => Nat.le_trans HK0.out.size (y0c hu b hb))
  have hcl : L.length ≤ c := by
   obtain ⟨_, _, A', c', e', hc', _⟩ := hrow
   injection e' with _ _ e3
   omega
  have HR := xhd hrow
  have HK := xhd (HK0.out.trans (Keeps.new hb))
  have i5 : (L.length : Int) ≤ (c : Int) := by omega
  clear hu hb HE hrow
  go_wp2_with fail
  go_ret
  exact ⟨A, c, rfl, HR.out, HK.out⟩
 ·have i3 : (1496 : Int) < (L.length : Int) := by omega
  have e1 : min (L.length : Int) 1496 = 1496 := by omega
  have i4 : ¬ (L.length : Int) ≤ 1496 := by omega
  have hlt : (L.take 1496).length = 1496 := by rw [List.length_take]; omega
  rw [hlt]
  have HLT := xhd hlt
  clear hlt
  go_enter Try.func67, Try.ntmps67
  go_wp2_with fail
  refine HE.out.mono ?_
  rintro e w1 ⟨u, rfl, hu, hb⟩
  obtain ⟨A, c, rfl⟩ := y0b hu
  have hrow := (Row.of_own hu).mono (G := fun b => w.heap.size ≤ b) (fun b hb => Nat.le_trans HK0.out.size (y0c hu b hb))
  have hcl : L.length ≤ c := by
   obtain ⟨_, _, A', c', e', hc', _⟩ := hrow
   injection e' with _ _ e3
   omega
  have HR := xhd (show Row w1 (fun b => w.heap.size ≤ b) 1 (.slice A 1496 c) 1496 (u8s (L.take 1496)) by rw [u8s_take]; exact hrow.take1 1496 (by omega))
  have HK := xhd (HK0.out.trans (Keeps.new hb))
  have i5 : (1496 : Int) ≤ (c : Int) := by omega
  clear hu hb HE hrow
  go_wp2_with fail
  go_ret
  exact ⟨A, c, rfl, HR.out, HK.out⟩
theorem ask_as (F : Nat → Prop) (g : Nat) (f : NF) (zq : List (Value × Pure.Opt)) (id' : Nat) (w : World) (h : NBlk w g f) (hF : ∀ b, F b → b < w.heap.size ∧ b ≠ g) (hx : ORow w F f.request zq) (hfx : FewOpts zq) (hid : f.id < 256) (hid' : id' = (f.id + 1) % 256) :
  Calls Try.prog 63 #[.pointer (some ⟨g, 0, none⟩)] w fun e w' => ∃ B cb u, ∃ qs : List (Value × Pure.Opt), e = .returned (.agg #[.int .i64 1, .int .i64 (id' : Int), .slice B (Pure.options (y01 zq)).2.length cb]) ∧
   Row w' (fun b => w.heap.size ≤ b) 1 (.slice B (Pure.options (y01 zq)).2.length cb) (Pure.options (y01 zq)).2.length (u8s (Pure.options (y01 zq)).2) ∧ y01 qs = y01 zq ∧ ORow w' (fun b => w.heap.size ≤ b) u qs ∧ NBlk w' g { f with id := id', aid := id', aopts := u, aopen := true } ∧ Keeps (only g) w w' := by
 obtain ⟨X, cx, hX, _⟩ := hx.form
 rw [hX] at hx
 have HX := xhd hx
 have HXE := xhd hX
 have HFX := xhd hfx
 have HFg := xhd (fun b hb (e : only g b) => (hF b hb).2 e)
 have HI := xhd y1r
 have hgl := h.lt
 obtain ⟨ro, hro⟩ : ∃ r, r = w.heap.size := ⟨_, rfl⟩
 go_enter Try.func63, Try.ntmps63
 go_upto_region 1 with fail
 rw [← hro]
 generalize hw1 : w.alloc _ = w1
 have hk1 : Keeps y02 w w1 := by rw [← hw1]; exact (Keeps.refl _ w).alloc _
 have hsz1 : w1.heap.size = ro + 1 := by rw [← hw1, hro]; simp
 have hO : Blk w1 ro 51 #[.int .i64 0, .int .i64 0, .slice none 0 0] := by rw [← hw1, hro]; exact Blk.new w _ _
 have h1 := h.keeps hk1 (fun h => h)
 have m4 : w1.cell? ⟨g, 5, none⟩ = some (.slice X zq.length cx) := by rw [← hX]; exact h1.cell 5
 have HBO := xhd (y1n F (.slice X zq.length cx) zq w1 (fun b hb => Nat.lt_of_lt_of_le (hF b hb).1 hk1.size) (hx.keeps hk1 (fun _ _ h => h)))
 have HN1 := xhd h1
 have HO1 := xhd hO
 have HK1 := xhd hk1
 have HRO := xhd hro
 have HGL0 := xhd hgl
 have HW1 := xhd hsz1
 have HOW := xhd (fun (A : Option Addr) (n c : Nat) (W : World) (hN : NBlk W g f) => own_as g f 1 A n c id' W hN hid hid')
 clear hw1 hk1 hO h1 h hF hx hfx hid hid' hX hro hgl hsz1
 go_wp2_with fail
 refine HBO.out.mono ?_
 rintro e w2 ⟨B, cb, rfl, hrb, hk2⟩
 have HN2 := xhd (HN1.out.keeps hk2 (fun h => h))
 have HO2 := xhd (HO1.out.keeps hk2 (fun h => h))
 have HRB2 := xhd hrb
 have HK2 := xhd (HK1.out.trans hk2)
 clear hrb hk2 HBO HN1 HO1 m4
 go_wp2_with fail
 refine (HOW.out _ _ _ _ HN2.out).mono ?_
 rintro e w3 ⟨rfl, hn3, hk3⟩
 have HN3 := xhd hn3
 have HO3 := xhd (HO2.out.keeps hk3 (fun e => by have e : ro = g := e; have := HRO.out; have := HGL0.out; omega))
 have HRB3 := xhd (HRB2.out.keeps hk3 (fun b hb e => by have e : b = g := e; have := HW1.out; have := HRO.out; have := HGL0.out; omega))
 have HK3 := xhd (show Keeps (only g) w w3 from (HK2.out.mono (fun _ h => h.elim)).trans hk3)
 have HS23 := xhd (show w2.heap.size ≤ w3.heap.size from hk3.size)
 have HS12 := xhd (show w1.heap.size ≤ w2.heap.size from HK2.out.size |> fun _ => by have := HK2.out.size; have := HW1.out; have := HO2.out.lt; omega)
 clear hn3 hk3 HOW HN2 HO2 HRB2
 go_upto_region 2 with fail
 obtain ⟨w4, hw4⟩ : ∃ w4, w4 = w3.alloc (.cells #[.int .i64 1, .int .i64 (id' : Int), .slice B (Pure.options (y01 zq)).2.length cb] 51) := ⟨_, rfl⟩
 obtain ⟨rp, hrp⟩ : ∃ r, r = w3.heap.size := ⟨_, rfl⟩
 rw [← hw4, ← hrp]
 have hk4 : Keeps y02 w3 w4 := by rw [hw4]; exact (Keeps.refl _ w3).alloc _
 have HP4 := xhd (show Blk w4 rp 51 #[.int .i64 1, .int .i64 (id' : Int), .slice B (Pure.options (y01 zq)).2.length cb] by rw [hw4, hrp]; exact Blk.new w3 _ _)
 have HN4 := xhd (HN3.out.keeps hk4 (fun h => h))
 have HO4 := xhd (HO3.out.keeps hk4 (fun h => h))
 have HQ1 := xhd (show w4.cell? ⟨rp, 1, none⟩ = some (.int .i64 (id' : Int)) by rw [HP4.out.cell]; rfl)
 have HM4 := xhd (show w4.cell? ⟨g, 5, none⟩ = some (.slice X zq.length cx) by rw [← HXE.out]; exact HN4.out.cell 5)
 have HKA := xhd (show Keeps (only g) w w4 from HK3.out.trans (hk4.mono (fun _ h => h.elim)))
 have HRB := xhd (HRB3.out.keeps hk4 (fun _ _ h => h))
 have HKZ := xhd (Keeps.refl y02 w4)
 have HWS := xhd (show w.heap.size + 1 = w1.heap.size by have := HW1.out; have := HRO.out; omega)
 have HGL := xhd (show g < w4.heap.size from HN4.out.lt)
 have HGL2 := xhd (show g < w.heap.size from HGL0.out)
 have HOL := xhd (show ro < w4.heap.size from HO4.out.lt)
 have HPG := xhd (show rp ≠ g by have := HN3.out.lt; omega)
 have HOG := xhd (show ro ≠ g by have := HRO.out; have := HGL0.out; omega)
 clear hw4 hrp hk4 HN3 HO3 HRB3 HK3
 refine y0e (fun w' => w'.cell? ⟨rp, 1, none⟩ = some (.int .i64 (id' : Int)) ∧ w'.cell? ⟨g, 5, none⟩ = some (.slice X zq.length cx) ∧ Blk w' rp 51 #[.int .i64 1, .int .i64 (id' : Int), .slice B (Pure.options (y01 zq)).2.length cb] ∧ NBlk w' g { f with id := id' }) 11 12 rfl (by kernel_rfl) ⟨HQ1.out, HM4.out, HP4.out, HN4.out⟩ (fun hHeld => ?_)
 have HSW := hHeld
 clear hHeld
 have HK0d := xhd (HKZ.out.drew)
 refine y00 (i := 0) rfl (by kernel_rfl) (fun _ _ _ h => h) (Or.inl ⟨by rfl, by intro w hSw; obtain ⟨s0, s1, _⟩ := hSw; go_simp; try with_reducible rfl⟩) HSW.out ?_
 simp only [Act.put, xqA, xqB, xqD, xqE, xqF]
 refine y00 (i := 1) rfl (by kernel_rfl) (fun _ _ _ h => h) (Or.inl ⟨by rfl, by intro w hSw; obtain ⟨s0, s1, _⟩ := hSw; go_simp; try with_reducible rfl⟩) HSW.out ?_
 simp only [Act.put, xqA, xqB, xqC, xqD, xqE, xqF]
 refine y00 (i := 2) rfl (by kernel_rfl) (fun _ _ _ h => h) (Or.inl ⟨by rfl, by intro w hSw; obtain ⟨s0, s1, _⟩ := hSw; go_simp; try with_reducible rfl⟩) HSW.out ?_
 simp only [Act.put, xqA, xqB, xqC, xqD, xqE, xqF]
 refine y00 (i := 3) rfl (by kernel_rfl) (fun _ _ _ h => h) (Or.inl ⟨by rfl, by intro w hSw; obtain ⟨s0, s1, _⟩ := hSw; go_simp; try with_reducible rfl⟩) HSW.out ?_
 simp only [Act.put, xqA, xqB, xqC, xqD, xqE, xqF]
 refine y00 (i := 4) rfl (by kernel_rfl) (fun _ _ _ h => h) (Or.inl ⟨by rfl, by intro w hSw; obtain ⟨s0, s1, _⟩ := hSw; go_simp; try with_reducible rfl⟩) HSW.out ?_
 simp only [Act.put, xqA, xqB, xqC, xqD, xqE, xqF]
 refine y00 (i := 5) rfl (by kernel_rfl) (fun _ _ _ h => h) (Or.inl ⟨by rfl, by intro w hSw; obtain ⟨s0, s1, _⟩ := hSw; go_simp; try with_reducible rfl⟩) HSW.out ?_
 simp only [Act.put, xqA, xqB, xqC, xqD, xqE, xqF]
 refine y00 (i := 6) rfl (by kernel_rfl) (fun _ _ _ h => h) (Or.inl ⟨by rfl, by intro w hSw; obtain ⟨s0, s1, _⟩ := hSw; go_simp; try with_reducible rfl⟩) HSW.out ?_
 simp only [Act.put, xqA, xqB, xqC, xqD, xqE, xqF]
 refine y05 (i := 7) (by kernel_rfl) rfl (fun K hK => ?_)
 try rw [if_pos (by rfl)]
 go_simp
 refine (y16 F (.slice X zq.length cx) zq _ (HX.out.keeps (HKA.out.trans (HK0d.out.mono (fun _ h => h.elim))) (fun b hb e => HFg.out b hb e)) HFX.out.len HFX.out.data).mono ?_
 rintro e w5 ⟨u, qs, rfl, hqs, hrd⟩
 obtain ⟨A5, c5, rfl⟩ := y0b hrd.own
 have hk5 := Keeps.new hrd.below
 have HQS := xhd hqs
 have HK5 := xhd (HK0d.out.trans hk5)
 have HRQ := xhd (hrd.row.mono (G := fun b => w4.heap.size ≤ b) (fun b hb => Nat.le_trans HK0d.out.size hb))
 have HS5 := xhd (And.intro (y0a HSW.out.1 hk5) (And.intro (y0a HSW.out.2.1 hk5) (And.intro (HSW.out.2.2.1.keeps hk5 (fun h => h)) (HSW.out.2.2.2.keeps hk5 (fun h => h)))))
 clear hqs hrd hk5
 refine hK.out _ _ (fun _ => HS5.out) ?_
 clear hK K
 try simp only [Act.put, xqA, Nat.reduceAdd, xqB, xqC, xqD, xqE, xqF]
 refine y00 (i := 8) rfl (by kernel_rfl) (fun _ _ _ h => h) (Or.inl ⟨by rfl, by intro w hSw; obtain ⟨s0, s1, _⟩ := hSw; go_simp; try with_reducible rfl⟩) HS5.out ?_
 simp only [Act.put, xqA, xqB, xqC, xqD, xqE, xqF]
 refine y00 (i := 9) rfl (by kernel_rfl) (fun _ _ _ h => h) (Or.inl ⟨by rfl, by intro w hSw; obtain ⟨s0, s1, _⟩ := hSw; go_simp; try with_reducible rfl⟩) HS5.out ?_
 simp only [Act.put, xqA, xqB, xqC, xqD, xqE, xqF]
 refine y00 (i := 10) rfl (by kernel_rfl) (fun _ _ _ h => h) (Or.inl ⟨by rfl, by intro w hSw; obtain ⟨s0, s1, _⟩ := hSw; go_simp; try with_reducible rfl⟩) HS5.out ?_
 simp only [Act.put, xqA, xqB, xqC, xqD, xqE, xqF]
 have hN : Blk w5 g 83 ({ f with id := id' } : NF).list.toArray := HS5.out.2.2.2
 have k5 : w5.cell? ⟨g, 6, none⟩ = some (.int .i64 (f.aid : Int)) := by rw [hN.cell]; rfl
 have k6 : w5.cell? ⟨g, 7, none⟩ = some f.aopts := by rw [hN.cell]; rfl
 have k7 : w5.cell? ⟨g, 8, none⟩ = some (.bool f.aopen) := by rw [hN.cell]; rfl
 have l5 := hN.frozen 6
 have l6 := hN.frozen 7
 have l7 := hN.frozen 8
 have HN6 := xhd (show NBlk (((w5.setCell ⟨g, 6, none⟩ (.int .i64 (id' : Int))).setCell ⟨g, 7, none⟩ (.slice A5 qs.length c5)).setCell ⟨g, 8, none⟩ (.bool true)) g { f with id := id', aid := id', aopts := .slice A5 qs.length c5, aopen := true } from ((hN.set 6 (.int .i64 (id' : Int))).set 7 (.slice A5 qs.length c5)).set 8 (.bool true))
 have KG := (((Keeps.refl (only g) w5).put 6 (.int .i64 (id' : Int))).put 7 (.slice A5 qs.length c5)).put 8 (.bool true)
 have HP6 := xhd (HS5.out.2.2.1.keeps KG (fun e => HPG.out e))
 have HRQ6 := xhd (HRQ.out.keeps KG (fun b hb e => by have e : b = g := e; have := HGL.out; omega))
 have HKG := xhd KG
 clear hN KG
 refine y05 (i := 11) (by kernel_rfl) rfl (fun K hK => ?_)
 go_simp
 refine hK.out _ _ (fun h => absurd rfl h) ?_
 clear hK K
 refine y0d (by kernel_rfl) ?_ _
 generalize hw6 : World.setCell _ ⟨g, 8, none⟩ _ = w6 at HN6 HP6 HRQ6 HKG ⊢
 have hP := HP6.out
 have p0 : w6.cell? ⟨rp, 0, none⟩ = some (.int .i64 1) := by rw [hP.cell]; rfl
 have p1 : w6.cell? ⟨rp, 1, none⟩ = some (.int .i64 (id' : Int)) := by rw [hP.cell]; rfl
 have p2 : w6.cell? ⟨rp, 2, none⟩ = some (.slice B (Pure.options (y01 zq)).2.length cb) := by rw [hP.cell]; rfl
 have hO := (HO4.out.keeps HK5.out (fun h => h)).keeps HKG.out (fun e => HOG.out e)
 have o0 : w6.cell? ⟨ro, 0, none⟩ = some (.int .i64 0) := by rw [hO.cell]; rfl
 have o1 : w6.cell? ⟨ro, 1, none⟩ = some (.int .i64 0) := by rw [hO.cell]; rfl
 have o2 : w6.cell? ⟨ro, 2, none⟩ = some (.slice none 0 0) := by rw [hO.cell]; rfl
 have g0 := hO.frozen 0
 have g1 := hO.frozen 1
 have g2 := hO.frozen 2
 have HZ := xhd (((hO.set 0 (.int .i64 1)).set 1 (.int .i64 (id' : Int))).set 2 (.slice B (Pure.options (y01 zq)).2.length cb))
 have KR := (((Keeps.refl (only ro) w6).put 0 (.int .i64 1)).put 1 (.int .i64 (id' : Int))).put 2 (.slice B (Pure.options (y01 zq)).2.length cb)
 have HN7 := xhd (HN6.out.keeps KR (fun e => HOG.out (Eq.symm e)))
 have HRQ7 := xhd ((HRQ6.out.keeps KR (fun b hb e => by have e : b = ro := e; have := HOL.out; omega)).mono (G := fun b => w.heap.size ≤ b) (fun b hb => Nat.le_trans HKA.out.size hb))
 have HRB7 := xhd (((((HRB.out.keeps HK5.out (fun _ _ h => h)).keeps HKG.out (fun b hb e => by have e : b = g := e; have := HGL2.out; have := HWS.out; omega)).keeps KR (fun b hb e => by have e : b = ro := e; have := HRO.out; have := HWS.out; omega))).mono (G := fun b => w.heap.size ≤ b) (fun b hb => by have := HWS.out; omega))
 have HK7 := xhd (show Keeps (only g) w _ from ((HKA.out.trans (HK5.out.mono (fun _ h => h.elim))).trans HKG.out).trans' KR (fun i hi hl => by have e : i = ro := hi; have := HRO.out; omega))
 clear hP hO KR hw6
 go_wp2_with fail
 refine bodyPost_ret (y0l rfl _ _ ro 51 _ (0, 0) _ rfl HZ.out Try.underlying51 rfl (by rw [HI.out]; rfl)) rfl ?_
 exact ⟨B, cb, _, qs, rfl, HRB7.out, HQS.out, HRQ7.out, HN7.out, HK7.out⟩
end Go.Proofs.Ytgphfindolaljaa
