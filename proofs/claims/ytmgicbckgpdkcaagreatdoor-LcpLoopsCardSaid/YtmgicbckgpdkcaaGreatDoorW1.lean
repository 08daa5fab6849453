/- What a walk is told of a slice of integers that came in. -/
import Derived.Great.Walk
import Derived.Test.YtmgicbckgpdkcaaGreatDoorC28
namespace Go.Proofs.YtmgicbckgpdkcaaGreatDoor
set_option maxRecDepth 100000
set_option maxHeartbeats 8000000
open _root_.Go.Lib renaming hid → xhd
open Go.RowKit
open Go.ChangeShapes Go.WideShapes Go.Deep
section
variable {H : Type} {enc : TypeId × Value → H} {P : Program} {w : World} {base : Nat} {held : Bool}
end
section
variable {H : Type} {enc : TypeId × Value → H} {P : Program} {w : World} {base : Nat} {held : Bool}
end
section
variable {H : Type} {enc : TypeId × Value → H} {P : Program} {w : World} {base : Nat} {held : Bool}
end
theorem y99 {n : Int} (h : (Lit.int .u32 n).wf = true) : 0 ≤ n ∧ n ≤ 4294967295 := by
 simpa [Lit.wf, IntKind.min, IntKind.max, IntKind.signed, IntKind.bits] using h
namespace Pure
theorem tick_good {m : Mach} (h : m.Good) : m.tick.2.Good ∧ m.tick.2.tries = m.tries ∧ m.tick.2.timeout = m.timeout := by
 unfold Mach.tick
 split
 ·exact ⟨h, rfl, rfl⟩
 ·rename_i h0
  split
  ·rename_i h1
   refine ⟨⟨h.state, h.tries, h.timeout, h.count, ?_, ?_, ?_⟩, rfl, rfl⟩
   ·show m.left - 1 ≤ m.timeout; have := h.left; omega
   ·intro hs; have := h.rest hs; omega
   ·intro _ _; show 0 < m.left - 1; omega
  ·split
   ·obtain ⟨g, _, a, b⟩ := y97 (m := { m with left := 0 }) (e := 4) (by omega) h.state h.tries h.timeout h.count (Nat.zero_le _) (fun h => absurd rfl h)
    exact ⟨g, a, b⟩
   ·obtain ⟨g, _, a, b⟩ := y97 (m := { m with left := 0 }) (e := 5) (by omega) h.state h.tries h.timeout h.count (Nat.zero_le _) (fun _ h => absurd rfl h)
    exact ⟨g, a, b⟩
end Pure
namespace Pure
theorem fsm_time : ∀ s < 10, (s < 4 ∨ s = 9 ∨ (((fsmAt s 4).1 = [6] ∨ (fsmAt s 4).1 = [9]) ∧ 4 ≤ (fsmAt s 4).2 ∧ (fsmAt s 4).2 ≤ 8 ∧ (fsmAt s 5).1 = [3] ∧ (fsmAt s 5).2 < 4)) := by decide +kernel
theorem tick_ways {m : Mach} (h : m.Good) (hl : 0 < m.left) :
  (1 < m.left ∧ m.tick = ([], { m with left := m.left - 1 })) ∨
  (m.left = 1 ∧ 0 < m.count ∧ ∃ a n, (a = 6 ∨ a = 9) ∧ 4 ≤ n ∧ n ≤ 8 ∧ fsmAt m.state 4 = ([a], n) ∧ m.tick = ([a], ⟨n, m.count - 1, m.timeout, m.tries, m.timeout⟩)) ∨
  (m.left = 1 ∧ m.count = 0 ∧ ∃ n, n < 4 ∧ fsmAt m.state 5 = ([3], n) ∧ m.tick = ([3], ⟨n, 0, 0, m.tries, m.timeout⟩)) := by
 have hs : 4 ≤ m.state ∧ m.state ≤ 8 := by
  have h1 := h.rest
  have h2 := h.state
  by_cases h3 : m.state < 4 ∨ m.state = 9
  ·have := h1 h3; omega
  ·omega
 rcases fsm_time m.state (by omega) with h1 | h1 | ⟨h1, h2, h3, h4, h5⟩
 ·omega
 ·omega
 ·by_cases h6 : 1 < m.left
  ·refine .inl ⟨h6, ?_⟩
   unfold Mach.tick
   rw [if_neg (by omega), if_pos h6]
  ·have h7 : m.left = 1 := by omega
   refine .inr ?_
   obtain ⟨s, c, lf, t, u⟩ := m
   dsimp only at *
   subst h7
   by_cases h8 : 0 < c
   ·refine .inl ⟨rfl, h8, ?_⟩
    obtain ⟨n, hn⟩ : ∃ n, n = (fsmAt s 4).2 := ⟨_, rfl⟩
    rw [← hn] at h2 h3
    have hb : ∀ a, (a = 6 ∨ a = 9) → (fsmAt s 4).1 = [a] → Mach.tick ⟨s, c, 1, t, u⟩ = ([a], ⟨n, c - 1, u, t, u⟩) := by
     intro a ha he
     unfold Mach.tick
     rw [if_neg (by simp), if_neg (by simp), if_pos h8]
     unfold Mach.step
     dsimp only
     rw [he, ← hn]
     have hact : List.foldl Mach.act ⟨n, c, 0, t, u⟩ [a] = ⟨n, c - 1, u, t, u⟩ := by
      rcases ha with rfl | rfl <;> rfl
     rw [hact]
     unfold Mach.rest
     rw [if_neg (by dsimp only; omega)]
    rcases h1 with h1 | h1
    ·exact ⟨6, n, .inl rfl, h2, h3, by rw [← h1, hn], hb 6 (.inl rfl) h1⟩
    ·exact ⟨9, n, .inr rfl, h2, h3, by rw [← h1, hn], hb 9 (.inr rfl) h1⟩
   ·have hc0 : c = 0 := by omega
    subst hc0
    refine .inr ⟨rfl, rfl, (fsmAt s 5).2, h5, by rw [← h4], ?_⟩
    unfold Mach.tick
    rw [if_neg (by simp), if_neg (by simp), if_neg (by simp)]
    unfold Mach.step
    dsimp only
    rw [h4]
    have hact : List.foldl Mach.act ⟨(fsmAt s 5).2, 0, 0, t, u⟩ [3] = ⟨(fsmAt s 5).2, 0, 0, t, u⟩ := rfl
    rw [hact]
    unfold Mach.rest
    rw [if_pos (.inl h5)]
theorem tick_stops {m : Mach} (hl : m.left = 0) : m.tick = ([], m) := by unfold Mach.tick; rw [if_pos hl]
def Mach.ticks : Nat → Mach → Mach
 | 0, m => m
 | n + 1, m => Mach.ticks n m.tick.2
end Pure
namespace Pure
end Pure
theorem yeh (g : Nat) (m : Pure.Mach) (w : World) (hm : y11 w g m) (hg : m.Good) (ht : m.tries ≤ 1000) (hu : m.timeout ≤ 1000) :
  Calls Tryz.prog 139 #[.pointer (some ⟨g, 0, none⟩)] w fun r w' => ∃ A c, r = .returned (.slice A m.tick.1.length c) ∧ Row w' (fun b => w.heap.size ≤ b) 1 (.slice A m.tick.1.length c) m.tick.1.length (ints m.tick.1) ∧ y11 w' g m.tick.2 ∧ Keeps (only g) w w' := by
 have HMD := xhd (yai g m w hm hg.tries)
 have hg3 : w.cell? ⟨g, 3, none⟩ = some (.int .i64 (m.count : Nat)) := by rw [Blk.cell hm]; rfl
 have hg4 : w.cell? ⟨g, 4, none⟩ = some (.int .i64 (m.left : Nat)) := by rw [Blk.cell hm]; rfl
 have y4 := Blk.frozen hm 4
 have HM := xhd hm
 have HG := xhd hg
 have HT := xhd ht
 clear hg ht
 by_cases h0 : m.left = 0
 ·rw [Pure.tick_stops h0]
  rw [h0] at hg4
  have hg4 : w.cell? ⟨g, 4, none⟩ = some (.int .i64 0) := hg4
  clear h0 hm hg3 y4
  go_enter Tryz.func139, Tryz.ntmps139
  go_wp2_with fail
  refine HMD.out.mono ?_
  rintro r w1 ⟨rfl, rfl⟩
  go_wp2
  go_ret
  exact ⟨_, _, rfl, Row.nil _ _ _, HM.out, Keeps.refl _ _⟩
 ·obtain ⟨L, hL⟩ : ∃ L, m.left = L + 1 := ⟨m.left - 1, by omega⟩
  have hll := HG.out.left
  have hm2 := Blk.set hm 4 (.int .i64 (L : Nat))
  have HS := xhd ((Keeps.refl (only g) w).store g 4 (fun _ => rfl) (.int .i64 (L : Nat)))
  have HM2 := xhd (show y11 (w.setCell ⟨g, 4, none⟩ (.int .i64 (L : Nat))) g { m with left := L } from hm2)
  have k1 : (w.setCell ⟨g, 4, none⟩ (.int .i64 (L : Nat))).cell? ⟨g, 3, none⟩ = some (.int .i64 (m.count : Nat)) := by rw [hm2.cell]; rfl
  have k2 : (w.setCell ⟨g, 4, none⟩ (.int .i64 (L : Nat))).cell? ⟨g, 4, none⟩ = some (.int .i64 (L : Nat)) := by rw [hm2.cell]; rfl
  rw [hL] at hg4
  have e1 : ((L + 1 : Nat) : Int) - 1 = (L : Int) := by omega
  have e2 : (((L + 1 : Nat) : Int) == 0) = false := by rw [beq_eq_false_iff_ne]; omega
  have lw : wrap64 (L : Int) = (L : Int) := IntWalk.wrap64_in _ (by omega)
  by_cases hL0 : 0 < L
  ·have ht : m.tick = ([], { m with left := L }) := by
    unfold Pure.Mach.tick
    rw [if_neg (by omega), if_pos (by omega), hL]
    rfl
   rw [ht]
   have d0 : decide ((0 : Int) < (L : Int)) = true := decide_eq_true (by omega)
   have d1 : decide (0 < L) = true := decide_eq_true hL0
   clear ht hm hm2 hL h0 k1
   go_enter Tryz.func139, Tryz.ntmps139
   go_wp2_with fail
   refine HMD.out.mono ?_
   rintro r w1 ⟨rfl, rfl⟩
   go_wp2
   go_ret
   exact ⟨_, _, rfl, Row.nil _ _ _, HM2.out, HS.out⟩
  ·have hz : L = 0 := by omega
   subst hz
   have hst := HG.out.state
   have hg4 : w.cell? ⟨g, 4, none⟩ = some (.int .i64 1) := hg4
   have k1 : (w.setCell ⟨g, 4, none⟩ (.int .i64 0)).cell? ⟨g, 3, none⟩ = some (.int .i64 (m.count : Nat)) := k1
   have k2 : (w.setCell ⟨g, 4, none⟩ (.int .i64 0)).cell? ⟨g, 4, none⟩ = some (.int .i64 0) := k2
   have HS0 := xhd (show Keeps (only g) w (w.setCell ⟨g, 4, none⟩ (.int .i64 0)) from HS.out)
   clear HS
   by_cases hc : 0 < m.count
   ·have ht : m.tick = Pure.Mach.step { m with left := 0 } 4 := by
     unfold Pure.Mach.tick
     rw [if_neg (by omega), if_neg (by omega), if_pos hc]
    rw [ht]
    have HST := y84 g 4 { m with left := 0 } _ HM2.out hst (by omega) HG.out.count HT.out
    generalize Pure.Mach.step { m with left := 0 } 4 = R at HST ⊢
    have HST := xhd (show Calls Tryz.prog 166 #[.pointer (some ⟨g, 0, none⟩), .int .i64 4] (w.setCell ⟨g, 4, none⟩ (.int .i64 0)) fun r w' => ∃ A c, r = .returned (.slice A R.1.length c) ∧ Row w' (fun b => (w.setCell ⟨g, 4, none⟩ (.int .i64 0)).heap.size ≤ b) 1 (.slice A R.1.length c) R.1.length (ints R.1) ∧ y11 w' g R.2 ∧ Keeps (only g) (w.setCell ⟨g, 4, none⟩ (.int .i64 0)) w' from HST)
    have d0 : decide ((0 : Int) < (m.count : Int)) = true := decide_eq_true (by omega)
    have d1 : decide (0 < m.count) = true := decide_eq_true hc
    clear ht hm hm2 hL h0 hL0 hc e1 e2 lw hst hll
    go_enter Tryz.func139, Tryz.ntmps139
    go_wp2_with fail
    refine HMD.out.mono ?_
    rintro r w1 ⟨rfl, rfl⟩
    go_wp2_with fail
    refine HST.out.mono ?_
    rintro r w2 ⟨A, c, rfl, hu, hm3, hk⟩
    have HU := xhd (hu.mono (fun b hb => Nat.le_trans HS0.out.size hb))
    have HM3 := xhd hm3
    have HK := xhd (HS0.out.trans hk)
    clear hu hm3 hk HST k1 k2 hg3 hg4 y4
    go_wp2
    go_ret
    exact ⟨A, c, rfl, HU.out, HM3.out, HK.out⟩
   ·have ht : m.tick = Pure.Mach.step { m with left := 0 } 5 := by
     unfold Pure.Mach.tick
     rw [if_neg (by omega), if_neg (by omega), if_neg hc]
    rw [ht]
    have HST := y84 g 5 { m with left := 0 } _ HM2.out hst (by omega) HG.out.count HT.out
    generalize Pure.Mach.step { m with left := 0 } 5 = R at HST ⊢
    have HST := xhd (show Calls Tryz.prog 166 #[.pointer (some ⟨g, 0, none⟩), .int .i64 5] (w.setCell ⟨g, 4, none⟩ (.int .i64 0)) fun r w' => ∃ A c, r = .returned (.slice A R.1.length c) ∧ Row w' (fun b => (w.setCell ⟨g, 4, none⟩ (.int .i64 0)).heap.size ≤ b) 1 (.slice A R.1.length c) R.1.length (ints R.1) ∧ y11 w' g R.2 ∧ Keeps (only g) (w.setCell ⟨g, 4, none⟩ (.int .i64 0)) w' from HST)
    have d0 : decide ((0 : Int) < (m.count : Int)) = false := decide_eq_false (by omega)
    have d1 : decide (0 < m.count) = false := decide_eq_false hc
    clear ht hm hm2 hL h0 hL0 hc e1 e2 lw hst hll
    go_enter Tryz.func139, Tryz.ntmps139
    go_wp2_with fail
    refine HMD.out.mono ?_
    rintro r w1 ⟨rfl, rfl⟩
    go_wp2_with fail
    refine HST.out.mono ?_
    rintro r w2 ⟨A, c, rfl, hu, hm3, hk⟩
    have HU := xhd (hu.mono (fun b hb => Nat.le_trans HS0.out.size hb))
    have HM3 := xhd hm3
    have HK := xhd (HS0.out.trans hk)
    clear hu hm3 hk HST k1 k2 hg3 hg4 y4
    go_wp2
    go_ret
    exact ⟨A, c, rfl, HU.out, HM3.out, HK.out⟩
namespace Pure
theorem ydt {m : Mach} (h : m.Good) : m.tick.1 = [] ∨ ∃ a, (a = 3 ∨ a = 6 ∨ a = 9) ∧ m.tick.1 = [a] := by
 by_cases hl : m.left = 0
 ·rw [tick_stops hl]; exact .inl rfl
 ·rcases tick_ways h (by omega) with ⟨h1, h2⟩ | ⟨h1, h2, a, n, ha, _, _, _, h3⟩ | ⟨h1, h2, n, _, _, h3⟩
  ·rw [h2]; exact .inl rfl
  ·rw [h3]; exact .inr ⟨a, by omega, rfl⟩
  ·rw [h3]; exact .inr ⟨3, by omega, rfl⟩
theorem tick_plain {m : Mach} (h : m.Good) : ∀ a ∈ m.tick.1, a ≠ 7 ∧ a ≠ 8 ∧ a ≠ 11 := by
 intro x hx
 rcases ydt h with e | ⟨a, ha, e⟩
 ·rw [e] at hx; cases hx
 ·rw [e] at hx
  have := List.mem_singleton.1 hx
  omega
theorem tick_few {m : Mach} (h : m.Good) : m.tick.1.length ≤ 100 := by
 rcases ydt h with e | ⟨a, ha, e⟩ <;> rw [e] <;> simp
end Pure
theorem tick_any (g : Nat) (R : Nat → Prop) (f : NF) (n : Pure.Neg) (w : World) (h : NObj w g R f n) (hnk : n.naks ≤ 1000) :
  Calls Tryz.prog 85 #[.pointer (some ⟨g, 0, none⟩)] w fun r w' => ∃ v, r = .returned v ∧ Outs w w' v n.tick.2 ∧ y18 w w' g R f n.tick.1 := by
 have HI := xhd y3q
 have hgl := h.blk.lt
 have hml := Blk.lt h.mach
 have HAE := xhd (show n.tick = ({ n with m := n.m.tick.2 } : Pure.Neg).acts n.m.tick.1 none from rfl)
 obtain ⟨ro, hro⟩ : ∃ q, q = w.heap.size := ⟨_, rfl⟩
 rw [HAE.out]
 have HPL0 := xhd (Pure.tick_plain h.well.good)
 have HMA0 := xhd (fun (W : World) (hW : NObj W g R f n) => yeh f.gm n.m W hW.mach hW.well.good hW.well.tries hW.well.timeout)
 have HGD := xhd (Pure.tick_good h.well.good)
 have HFW0 := xhd (Pure.tick_few h.well.good)
 obtain ⟨l, hl⟩ : ∃ l, l = n.m.tick.1 := ⟨_, rfl⟩
 obtain ⟨m', hm'⟩ : ∃ m', m' = n.m.tick.2 := ⟨_, rfl⟩
 rw [← hl] at HPL0 HFW0 HMA0 ⊢
 rw [← hm'] at HMA0 HGD ⊢
 clear hl hm'
 have HNK := xhd hnk
 clear hnk
 go_enter Tryz.func85, Tryz.ntmps85
 go_upto_region 1 with fail
 rw [← hro]
 generalize hw1 : w.alloc _ = w1
 have hk1 : Keeps y01 w w1 := by rw [← hw1]; exact (Keeps.refl _ w).alloc _
 have HRO1 := xhd (show Blk w1 ro 59 #[.slice none 0 0, .bool false, .bool false, .bool false, .bool false] by rw [← hw1, hro]; exact Blk.new w _ _)
 have H1 := xhd (h.keeps hk1 (fun h => h) (fun h => h) (fun _ _ h => h))
 have HK1 := xhd hk1
 have HMD := xhd (y22 g f w1 H1.out.blk)
 have HRG := xhd (show ro ≠ g by omega)
 have HRM := xhd (show ro ≠ f.gm by omega)
 have HR0 := xhd (show w.heap.size ≤ ro by omega)
 have HNR := xhd (show ¬ R ro from fun e => by have := h.lt ro e; omega)
 have HSUB := xhd (show ∀ b, R b → R b ∨ w.heap.size ≤ b from fun b hb => .inl hb)
 have c0 : w1.cell? ⟨g, 0, none⟩ = some (.pointer (some ⟨f.gm, 0, none⟩)) := H1.out.blk.cell 0
 have HMA := xhd (HMA0.out w1 H1.out)
 clear hw1 hk1 hro hgl hml h HMA0
 go_wp2_with fail
 refine HMD.out.mono ?_
 rintro e' w' ⟨rfl, rfl⟩
 go_wp2_with fail
 refine HMA.out.mono ?_
 rintro e' w4 ⟨LA, lc, rfl, hrow4, hm4, hk4⟩
 have HN4 := xhd (H1.out.machine (m' := m') hk4 hm4 HGD.out.1 HGD.out.2.1 HGD.out.2.2)
 have HROW := xhd (HRO1.out.keeps hk4 (fun e => HRM.out e))
 have HKW := xhd (show Keeps (fun b => b = g ∨ b = f.gm) w w4 from (HK1.out.mono (fun _ h => h.elim)).trans (hk4.mono (fun b e => .inr e)))
 have HRL := xhd (show ro < w4.heap.size from HROW.out.lt)
 have HPF := xhd (y6d g 0 _ _ n m' l w4 w1 HN4.out HPL0.out HFW0.out HNK.out H1.out.blk.lt LA lc hrow4)
 clear hrow4 hm4 hk4 HMA HRO1 c0
 go_wp2_with fail
 refine HPF.out.mono ?_
 rintro e' w5 ⟨v, rfl, hout, hbec⟩
 have hRo : Blk w5 ro 59 #[.slice none 0 0, .bool false, .bool false, .bool false, .bool false] := by
  obtain ⟨_, _, _, _, _, hk⟩ := hbec
  exact HROW.out.keeps hk (fun e => by rcases e with e | e; exact HRG.out e; exact HRM.out e)
 have hfar := fun w'' (k : Keeps (only ro) w5 w'') => (hout.far k HRL.out).since HKW.out.size
 have hcl := fun w'' (k : Keeps (only ro) w5 w'') => hbec.close (f := f) rfl HSUB.out HKW.out k HR0.out HRL.out (fun e => HRG.out e.symm) (fun e => HRM.out e.symm) HNR.out
 obtain ⟨sv, ps, rfl, hprow, hpk, hfw⟩ := hout
 obtain ⟨A6, c6, rfl, _⟩ := hprow.form
 skip
 have z0 : w5.cell? ⟨ro, 0, none⟩ = some (.slice none 0 0) := by rw [hRo.cell]; rfl
 have z1 : w5.cell? ⟨ro, 1, none⟩ = some (.bool false) := by rw [hRo.cell]; rfl
 have z2 : w5.cell? ⟨ro, 2, none⟩ = some (.bool false) := by rw [hRo.cell]; rfl
 have z3 : w5.cell? ⟨ro, 3, none⟩ = some (.bool false) := by rw [hRo.cell]; rfl
 have z4 : w5.cell? ⟨ro, 4, none⟩ = some (.bool false) := by rw [hRo.cell]; rfl
 have f0 := hRo.frozen 0
 have f1 := hRo.frozen 1
 have f2 := hRo.frozen 2
 have f3 := hRo.frozen 3
 have f4 := hRo.frozen 4
 obtain ⟨O1, hO1⟩ : ∃ b, b = (Pure.Neg.acts { n with m := m' } l none).2.up := ⟨_, rfl⟩
 obtain ⟨O2, hO2⟩ : ∃ b, b = (Pure.Neg.acts { n with m := m' } l none).2.down := ⟨_, rfl⟩
 obtain ⟨O3, hO3⟩ : ∃ b, b = (Pure.Neg.acts { n with m := m' } l none).2.start := ⟨_, rfl⟩
 obtain ⟨O4, hO4⟩ : ∃ b, b = (Pure.Neg.acts { n with m := m' } l none).2.done := ⟨_, rfl⟩
 rw [← hO1, ← hO2, ← hO3, ← hO4] at hfar ⊢
 have HZ := xhd (((((hRo.set 0 (.slice A6 ps.length c6)).set 1 (.bool O1)).set 2 (.bool O2)).set 3 (.bool O3)).set 4 (.bool O4))
 have KR := (((((Keeps.refl (only ro) w5).put 0 (.slice A6 ps.length c6)).put 1 (.bool O1)).put 2 (.bool O2)).put 3 (.bool O3)).put 4 (.bool O4)
 have HFAR := xhd (hfar _ KR)
 have HCL := xhd (hcl _ KR)
 clear hRo hfar hcl hprow hpk hfw KR hO1 hO2 hO3 hO4 hbec HPF
 go_wp2_with fail
 refine bodyPost_ret (y07 rfl _ _ ro 59 _ (0, 0) _ rfl HZ.out Tryz.underlying59 rfl (by rw [HI.out]; rfl)) rfl ?_
 exact ⟨_, rfl, HFAR.out, HCL.out⟩
namespace Pure
theorem tick_rules (n : Neg) : n.tick.1.rules = n.rules := (y5v none _ ({ n with m := n.m.tick.2 }, mute)).rules
end Pure
section
variable {w : World} {k : LF} {R : Nat → Prop} {f : NF} {x : Pure.Lcp}
theorem ltick_any (h : LObj w k R f x) (hnk : x.n.naks ≤ 1000) :
  Calls Tryz.prog 33 #[.pointer (some ⟨k.l, 0, none⟩)] w fun r w' => ∃ v, r = .returned v ∧ y3g w w' v x.tick.2 ∧ y1k w w' k R x.tick.1 := by
 have HI := xhd y35
 obtain ⟨ro, hro⟩ : ∃ q, q = w.heap.size := ⟨_, rfl⟩
 obtain ⟨w1, hw1⟩ : ∃ q, q = w.alloc (.cells y23.toArray 61) := ⟨_, rfl⟩
 have hk1 : Keeps y01 w w1 := by rw [hw1]; exact (Keeps.refl _ w).alloc _
 have HO := xhd (show Blk w1 ro 61 y23.toArray by rw [hw1, hro]; exact Blk.new w _ _)
 have h1 := h.quiet hk1
 have HN := xhd (y1y h1)
 have hgl := h.obj.blk.lt
 have hml := Blk.lt h.obj.mach
 have HRG := xhd (show ro ≠ k.g by omega)
 have HRM := xhd (show ro ≠ f.gm by omega)
 have HNR := xhd (show ¬ R ro from fun e => by have := h.obj.lt ro e; omega)
 have HRL := xhd (show ro < w1.heap.size from HO.out.lt)
 have HR0 := xhd (show w.heap.size ≤ ro by omega)
 have HH := xhd h
 have HK1 := xhd hk1
 have HCALL := xhd (tick_any k.g R f x.n w1 h1.obj hnk)
 clear hnk
 clear h hk1 h1 hgl hml
 go_enter Tryz.func33, Tryz.ntmps33
 go_upto_region 1 with fail
 rw [← hro]
 rw [show w.alloc (.cells #[.slice none 0 0, .bool false, .bool false, .bool false, .bool false, .int .i64 0] 61) = w1 from hw1.symm]
 clear hw1 hro
 go_wp2_with fail
 refine HN.out.mono ?_
 rintro e' w2 ⟨rfl, rfl⟩
 go_wp2_with fail
 refine HCALL.out.mono ?_
 rintro e' w5 ⟨v, rfl, hout, hbec⟩
 clear HCALL HN
 have hRo : Blk w5 ro 61 y23.toArray := by
  obtain ⟨_, _, _, _, _, hk⟩ := hbec
  exact HO.out.keeps hk (fun e => by rcases e with e | e; exact HRG.out e; exact HRM.out e)
 have hfar := fun w'' (K : Keeps (only ro) w5 w'') => (hout.far K HRL.out).since HK1.out.size
 have hcl := fun w'' (K : Keeps (only ro) w5 w'') => hbec.close (f := f) rfl (fun b hb => .inl hb) (HK1.out.mono (fun _ e => e.elim)) K HR0.out HRL.out (fun e => HRG.out e.symm) (fun e => HRM.out e.symm) HNR.out
 obtain ⟨sv, ps, rfl, hprow, hpk, hfw⟩ := hout
 obtain ⟨A6, c6, rfl, _⟩ := hprow.form
 have z0 : w5.cell? ⟨ro, 0, none⟩ = some (.slice none 0 0) := by rw [hRo.cell]; rfl
 have f0 := hRo.frozen 0
 have z1 : w5.cell? ⟨ro, 1, none⟩ = some (.bool false) := by rw [hRo.cell]; rfl
 have f1 := hRo.frozen 1
 have z2 : w5.cell? ⟨ro, 2, none⟩ = some (.bool false) := by rw [hRo.cell]; rfl
 have f2 := hRo.frozen 2
 have z3 : w5.cell? ⟨ro, 3, none⟩ = some (.bool false) := by rw [hRo.cell]; rfl
 have f3 := hRo.frozen 3
 have z4 : w5.cell? ⟨ro, 4, none⟩ = some (.bool false) := by rw [hRo.cell]; rfl
 have f4 := hRo.frozen 4
 have z5 : w5.cell? ⟨ro, 5, none⟩ = some (.int .i64 0) := by rw [hRo.cell]; rfl
 have f5 := hRo.frozen 5
 obtain ⟨O1, hO1⟩ : ∃ b, b = (x.n.tick.2).up := ⟨_, rfl⟩
 obtain ⟨O2, hO2⟩ : ∃ b, b = (x.n.tick.2).down := ⟨_, rfl⟩
 obtain ⟨O3, hO3⟩ : ∃ b, b = (x.n.tick.2).start := ⟨_, rfl⟩
 obtain ⟨O4, hO4⟩ : ∃ b, b = (x.n.tick.2).done := ⟨_, rfl⟩
 rw [← hO1, ← hO2, ← hO3, ← hO4] at hfar ⊢
 have HZ := xhd ((((((hRo.set 0 (.slice A6 ps.length c6)).set 1 (.bool O1)).set 2 (.bool O2)).set 3 (.bool O3)).set 4 (.bool O4)).set 5 (.int .i64 0))
 have KR := (((((((Keeps.refl (only ro) w5).put 0 (.slice A6 ps.length c6)).put 1 (.bool O1)).put 2 (.bool O2)).put 3 (.bool O3)).put 4 (.bool O4)).put 5 (.int .i64 0))
 have HFAR := xhd (hfar _ KR)
 have HCL := xhd (HH.out.turned (Pure.tick_rules x.n) (hcl _ KR))
 have HO1 := xhd hO1
 have HO2 := xhd hO2
 have HO3 := xhd hO3
 have HO4 := xhd hO4
 clear hRo hfar hcl hprow hpk hfw KR hO1 hO2 hO3 hO4 hbec
 go_wp2_with fail
 refine bodyPost_ret (y07 rfl _ _ ro 61 _ (0, 0) _ rfl HZ.out Tryz.underlying61 rfl (by rw [HI.out]; rfl)) rfl ?_
 obtain ⟨sv', ps', e', hp', hs', hf'⟩ := HFAR.out
 injection e' with e'
 have e0 : sv' = .slice A6 ps.length c6 := by
  have := congrArg (fun a => a[0]?) e'
  simpa using this.symm
 subst e0
 refine ⟨_, rfl, ⟨_, ps', ?_, hp', hs', hf'⟩, HCL.out⟩
 show Value.agg _ = Value.agg #[_, .bool (x.n.tick.2).up, .bool (x.n.tick.2).down, .bool (x.n.tick.2).start, .bool (x.n.tick.2).done, .int .i64 0]
 rw [← HO1.out, ← HO2.out, ← HO3.out, ← HO4.out]
 rfl
end
theorem y1m {P : Program} {ops : Array Oper} {rest : List Oper} {o : Oper} {a : Act} {w : World} {Q : Exit → Act → World → Prop} (hg : o.guard = none) (d : Option Tmp) (hd : o.dst = d)
  (f : FuncId) (args : Array Value) (hrun : (execOp a.eval o).run P w = .ok (.enter f args) w) {Φ : Ending → World → Prop} (hc : Calls P f args w Φ)
  (h : ∀ e w', Φ e w' → ∃ v, e = .returned v ∧ wpList P ops Q rest (a.put d v) w') : wpList P ops Q (o :: rest) a w := by
 subst hd
 refine wpList_plain hg fun K hK => ?_
 unfold Oper.wp
 rw [hrun, Oper.upon_enter]
 refine hc.mono fun e w'' hh => ?_
 obtain ⟨v, rfl, h2⟩ := h e w'' hh
 exact hK _ _ h2
abbrev y0z : Array Value := (y0d ⟨false, [], [], 0, false, false, 0, 0, false, 0, false, false, false, false, false, 0, 0, 0⟩ ByteArray.empty ByteArray.empty).toArray
theorem y19 (ρ : Operand → Value) (d : Option Tmp) (ty : TypeId) (ps : String) (af : Array _) (w : World) :
  (execOp ρ { dst := d, op := .alloc 25, type := ty, pos := ps, after := af, guard := none }).run Tryz.prog w = .ok (.value (.pointer (some ⟨w.heap.size, 0, none⟩))) (w.alloc (.cells y0z 25)) := by
 kernel_rfl
namespace Pure
def y15 (m : Nat) : Nat → Nat
 | 0 => m
 | i + 1 => nextMagic (y15 m i)
theorem ycz (m : Nat) (h0 : m ≠ 0) (hm : m < 4294967296) : nextMagic m = (m - 1 + 1) % 4294967295 + 1 := by
 unfold nextMagic
 split <;> omega
theorem y39 (m : Nat) (h0 : m ≠ 0) (hm : m < 4294967296) : ∀ i, y15 m i = (m - 1 + i) % 4294967295 + 1
 | 0 => by show m = _; omega
 | i + 1 => by
  have ih := y39 m h0 hm i
  show nextMagic (y15 m i) = _
  rw [ycz _ (by omega) (by omega), ih]
  omega
theorem y6k {m i j : Nat} (h0 : m ≠ 0) (hm : m < 4294967296) (hi : i ≤ 1000) (hj : j ≤ 1000) (h : y15 m i = y15 m j) : i = j := by
 rw [y39 m h0 hm, y39 m h0 hm] at h
 omega
theorem y2i {m : Nat} (h0 : m ≠ 0) (hm : m < 4294967296) (i : Nat) : y15 m i ≠ 0 ∧ y15 m i < 4294967296 := by
 rw [y39 m h0 hm]
 omega
end Pure
theorem yhi (p : Value) (A : Option Addr) (c : Nat) (w : World) :
  Calls Tryz.prog 125 #[p, .slice A 0 c, .agg #[.int .i64 0, .int .i64 0, .slice none 0 0, .int .i64 0, .slice none 0 0]] w fun e w' => e = .returned (.agg #[.slice none 0 0, .bool false, .bool false, .bool false, .bool false]) ∧ Keeps y01 w w' := by
 have HI := xhd y3q
 obtain ⟨rc, hrc⟩ : ∃ q, q = w.heap.size := ⟨_, rfl⟩
 obtain ⟨ro, hro⟩ : ∃ q, q = rc + 1 := ⟨_, rfl⟩
 obtain ⟨go, hgo⟩ : ∃ q, q = ro + 1 := ⟨_, rfl⟩
 go_enter Tryz.func125, Tryz.ntmps125
 go_upto_region 2 with fail
 simp only [← hrc, ← hro, ← hgo]
 generalize hw1 : ((w.alloc _).alloc _).alloc _ = w1
 have hk1 : Keeps y01 w w1 := by rw [← hw1]; exact (((Keeps.refl _ w).alloc _).alloc _).alloc _
 have hR1 : Blk w1 ro 59 #[.slice none 0 0, .bool false, .bool false, .bool false, .bool false] := by
  rw [← hw1, show ro = (w.alloc (.cells #[.int .i64 0, .int .i64 0, .slice none 0 0, .int .i64 0, .slice none 0 0] 180)).heap.size by rw [hro, hrc]; simp]
  exact (Blk.new _ _ _).alloc _
 have hO1 : Blk w1 go 59 #[.slice none 0 0, .bool false, .bool false, .bool false, .bool false] := by
  rw [← hw1, show go = ((w.alloc (.cells #[.int .i64 0, .int .i64 0, .slice none 0 0, .int .i64 0, .slice none 0 0] 180)).alloc (.cells #[.slice none 0 0, .bool false, .bool false, .bool false, .bool false] 59)).heap.size by rw [hgo, hro, hrc]; simp]
  exact Blk.new _ _ _
 have HR1 := xhd hR1
 have HO1 := xhd hO1
 have HK1 := xhd hk1
 have HRW := xhd (show w.heap.size ≤ ro by omega)
 clear hw1 hk1 hR1 hO1 hrc hro hgo
 go_wp2_with fail
 go_loopw [12] (fun i wr => i = .int .i64 0 ∧ wr = w1) (fun _ _ => 0)
 case atStart => exact ⟨rfl, rfl⟩
 case round =>
  obtain ⟨rfl, rfl⟩ := hrel
  have x0 : wr.cell? ⟨go, 0, none⟩ = some (.slice none 0 0) := by rw [HO1.out.cell]; rfl
  have x1 : wr.cell? ⟨go, 1, none⟩ = some (.bool false) := by rw [HO1.out.cell]; rfl
  have x2 : wr.cell? ⟨go, 2, none⟩ = some (.bool false) := by rw [HO1.out.cell]; rfl
  have x3 : wr.cell? ⟨go, 3, none⟩ = some (.bool false) := by rw [HO1.out.cell]; rfl
  have x4 : wr.cell? ⟨go, 4, none⟩ = some (.bool false) := by rw [HO1.out.cell]; rfl
  have z0 : wr.cell? ⟨ro, 0, none⟩ = some (.slice none 0 0) := by rw [HR1.out.cell]; rfl
  have z1 : wr.cell? ⟨ro, 1, none⟩ = some (.bool false) := by rw [HR1.out.cell]; rfl
  have z2 : wr.cell? ⟨ro, 2, none⟩ = some (.bool false) := by rw [HR1.out.cell]; rfl
  have z3 : wr.cell? ⟨ro, 3, none⟩ = some (.bool false) := by rw [HR1.out.cell]; rfl
  have z4 : wr.cell? ⟨ro, 4, none⟩ = some (.bool false) := by rw [HR1.out.cell]; rfl
  have f0 := HR1.out.frozen 0
  have f1 := HR1.out.frozen 1
  have f2 := HR1.out.frozen 2
  have f3 := HR1.out.frozen 3
  have f4 := HR1.out.frozen 4
  have HZ := xhd (((((HR1.out.set 0 (.slice none 0 0)).set 1 (.bool false)).set 2 (.bool false)).set 3 (.bool false)).set 4 (.bool false))
  have KR := (((((Keeps.refl (only ro) wr).put 0 (.slice none 0 0)).put 1 (.bool false)).put 2 (.bool false)).put 3 (.bool false)).put 4 (.bool false)
  have HKF := xhd (HK1.out.trans' KR (fun i hi hl => by have e : i = ro := hi; have := HRW.out; omega))
  clear KR
  go_wp2_with fail
  refine bodyPost_ret (y07 rfl _ _ ro 59 _ (0, 0) _ rfl HZ.out Tryz.underlying59 rfl (by rw [HI.out]; rfl)) rfl ?_
  exact ⟨rfl, HKF.out⟩
theorem do_up_nil (g : Nat) (R : Nat → Prop) (f : NF) (n : Pure.Neg) (w : World) (h : NObj w g R f n) (hnil : (n.m.act2 (0 : Int)).1 = []) :
  Calls Tryz.prog 71 #[.pointer (some ⟨g, 0, none⟩), .int .i64 0] w fun r w' => r = .returned (.agg #[.slice none 0 0, .bool false, .bool false, .bool false, .bool false]) ∧ y18 w w' g R f (n.act 0).1 := by
 have HI := xhd y3q
 have hgl := h.blk.lt
 have hml := Blk.lt h.mach
 obtain ⟨zf, hzf, hze, hzw⟩ := h.first
 have HZE := xhd hze
 have HAE := xhd (show n.act 0 = ({ n.again with m := (n.m.act2 (0 : Int)).2 } : Pure.Neg).acts (n.m.act2 (0 : Int)).1 none from rfl)
 obtain ⟨ro, hro⟩ : ∃ q, q = w.heap.size := ⟨_, rfl⟩
 rw [HAE.out]
 have HMA0 := xhd (fun (W : World) (f2 : NF) (R2 : Nat → Prop) (hW : NObj W g R2 f2 n.again) => y5h f2.gm 0 n.m W hW.mach hW.well.good hW.well.tries)
 have HGD := xhd (Pure.act2_good h.well.good (0 : Int))
 rw [hnil] at HMA0 ⊢
 obtain ⟨m', hm'⟩ : ∃ m', m' = (n.m.act2 (0 : Int)).2 := ⟨_, rfl⟩
 rw [← hm'] at HMA0 HGD ⊢
 clear hm'
 go_enter Tryz.func71, Tryz.ntmps71
 go_upto_region 1 with fail
 rw [← hro]
 generalize hw1 : w.alloc _ = w1
 have hk1 : Keeps y01 w w1 := by rw [← hw1]; exact (Keeps.refl _ w).alloc _
 have hs1 : w1.heap.size = ro + 1 := by rw [← hw1, hro]; simp
 have HRO1 := xhd (show Blk w1 ro 59 #[.slice none 0 0, .bool false, .bool false, .bool false, .bool false] by rw [← hw1, hro]; exact Blk.new w _ _)
 have H1 := xhd (h.keeps hk1 (fun h => h) (fun h => h) (fun _ _ h => h))
 have HK1 := xhd hk1
 have HMD := xhd (y22 g f w1 H1.out.blk)
 have HBG := xhd (y6j R g f zf w1 H1.out.blk (hzf.keeps hk1 (fun _ _ h => h)) hzw)
 have HRG := xhd (show ro ≠ g by omega)
 have HRM := xhd (show ro ≠ f.gm by omega)
 have HR0 := xhd (show w.heap.size ≤ ro by omega)
 have HS1 := xhd hs1
 have HLTR := xhd (show ¬ R ro from fun e => by have := h.lt ro e; omega)
 have HGW := xhd hgl
 clear hw1 hk1 hs1 hro hgl hml hzf hze hzw h
 go_wp2_with fail
 refine HMD.out.mono ?_
 rintro e' w' ⟨rfl, rfl⟩
 go_wp2_with fail
 refine HBG.out.mono ?_
 rintro e' w2 ⟨rfl, u2, q2, hq2, hr2, hb2, hk2⟩
 have HN2 := xhd (H1.out.begun hk2 (hq2.trans HZE.out) hr2 hb2)
 have HRO2 := xhd (HRO1.out.keeps hk2 (fun e => HRG.out e))
 have HK2 := xhd (show Keeps (fun b => b = g ∨ b = f.gm) w w2 from (HK1.out.mono (fun _ h => h.elim)).trans (hk2.mono (fun b e => .inl e)))
 have HNR := xhd (show ¬ y1c w1 w2 R ro from fun e => by rcases e.1 with e | e; exact HLTR.out e; have := HS1.out; omega)
 have HSUB := xhd (show ∀ b, y1c w1 w2 R b → R b ∨ w.heap.size ≤ b from fun b hb => hb.1.imp (fun h => h) (fun h => Nat.le_trans HK1.out.size h))
 clear hq2 hr2 hb2 hk2 HBG HMD H1 HRO1 HZE
 have c0 : w2.cell? ⟨g, 0, none⟩ = some (.pointer (some ⟨f.gm, 0, none⟩)) := HN2.out.blk.cell 0
 have HMA := xhd (HMA0.out w2 _ _ HN2.out)
 clear HMA0
 go_wp2_with fail
 refine HMA.out.mono ?_
 rintro e' w4 ⟨LA, lc, rfl, hrow4, hm4, hk4⟩
 have HN4 := xhd (HN2.out.machine (m' := m') hk4 hm4 HGD.out.1 HGD.out.2.1 HGD.out.2.2)
 have HROW := xhd (HRO2.out.keeps hk4 (fun e => HRM.out e))
 have HKW := xhd (show Keeps (fun b => b = g ∨ b = f.gm) w w4 from HK2.out.trans (hk4.mono (fun b e => .inr e)))
 have HRL := xhd (show ro < w4.heap.size from HROW.out.lt)
 have HPF := xhd (yhi (.pointer (some ⟨g, 0, none⟩)) LA lc w4)
 clear hrow4 hm4 hk4 HMA HN2 HRO2 HK2 c0
 go_wp2_with fail
 refine HPF.out.mono ?_
 rintro e' w5 ⟨rfl, hk5⟩
 have hbec : y18 w4 w5 g _ _ { n.again with m := m' } := ⟨_, _, HN4.out.keeps hk5 (fun e => e) (fun e => e) (fun _ _ e => e), rfl, fun b hb => .inl hb, hk5.mono (fun _ e => e.elim)⟩
 have hRo : Blk w5 ro 59 #[.slice none 0 0, .bool false, .bool false, .bool false, .bool false] := by
  obtain ⟨_, _, _, _, _, hk⟩ := hbec
  exact HROW.out.keeps hk (fun e => by rcases e with e | e; exact HRG.out e; exact HRM.out e)
 have hcl := fun w'' (k : Keeps (only ro) w5 w'') => hbec.close (f := f) rfl HSUB.out HKW.out k HR0.out HRL.out (fun e => HRG.out e.symm) (fun e => HRM.out e.symm) HNR.out
 have z0 : w5.cell? ⟨ro, 0, none⟩ = some (.slice none 0 0) := by rw [hRo.cell]; rfl
 have z1 : w5.cell? ⟨ro, 1, none⟩ = some (.bool false) := by rw [hRo.cell]; rfl
 have z2 : w5.cell? ⟨ro, 2, none⟩ = some (.bool false) := by rw [hRo.cell]; rfl
 have z3 : w5.cell? ⟨ro, 3, none⟩ = some (.bool false) := by rw [hRo.cell]; rfl
 have z4 : w5.cell? ⟨ro, 4, none⟩ = some (.bool false) := by rw [hRo.cell]; rfl
 have f0 := hRo.frozen 0
 have f1 := hRo.frozen 1
 have f2 := hRo.frozen 2
 have f3 := hRo.frozen 3
 have f4 := hRo.frozen 4
 have HZ := xhd (((((hRo.set 0 (.slice none 0 0)).set 1 (.bool false)).set 2 (.bool false)).set 3 (.bool false)).set 4 (.bool false))
 have KR := (((((Keeps.refl (only ro) w5).put 0 (.slice none 0 0)).put 1 (.bool false)).put 2 (.bool false)).put 3 (.bool false)).put 4 (.bool false)
 have HCL := xhd (hcl _ KR)
 clear hRo hcl KR hbec hk5 HPF
 go_wp2_with fail
 refine bodyPost_ret (y07 rfl _ _ ro 59 _ (0, 0) _ rfl HZ.out Tryz.underlying59 rfl (by rw [HI.out]; rfl)) rfl ?_
 exact ⟨rfl, HCL.out⟩
theorem ldo_up_nil {w : World} {k : LF} {R : Nat → Prop} {f : NF} {x : Pure.Lcp} (h : LObj w k R f x) (hnil : (x.n.m.act2 (0 : Int)).1 = []) :
  Calls Tryz.prog 28 #[.pointer (some ⟨k.l, 0, none⟩), .int .i64 0] w fun r w' => r = .returned (.agg #[.slice none 0 0, .bool false, .bool false, .bool false, .bool false, .int .i64 0]) ∧ y1k w w' k R (x.act 0).1 := by
 have HI := xhd y35
 obtain ⟨ro, hro⟩ : ∃ q, q = w.heap.size := ⟨_, rfl⟩
 obtain ⟨w1, hw1⟩ : ∃ q, q = w.alloc (.cells y23.toArray 61) := ⟨_, rfl⟩
 have hk1 : Keeps y01 w w1 := by rw [hw1]; exact (Keeps.refl _ w).alloc _
 have HO := xhd (show Blk w1 ro 61 y23.toArray by rw [hw1, hro]; exact Blk.new w _ _)
 have h1 := h.quiet hk1
 have HN := xhd (y1y h1)
 have hgl := h.obj.blk.lt
 have hml := Blk.lt h.obj.mach
 have HRG := xhd (show ro ≠ k.g by omega)
 have HRM := xhd (show ro ≠ f.gm by omega)
 have HNR := xhd (show ¬ R ro from fun e => by have := h.obj.lt ro e; omega)
 have HRL := xhd (show ro < w1.heap.size from HO.out.lt)
 have HR0 := xhd (show w.heap.size ≤ ro by omega)
 have HH := xhd h
 have HK1 := xhd hk1
 have HCALL := xhd (do_up_nil k.g R f x.n w1 h1.obj hnil)
 clear h hk1 h1 hgl hml
 go_enter Tryz.func28, Tryz.ntmps28
 go_upto_region 1 with fail
 rw [← hro]
 rw [show w.alloc (.cells #[.slice none 0 0, .bool false, .bool false, .bool false, .bool false, .int .i64 0] 61) = w1 from hw1.symm]
 clear hw1 hro
 go_wp2_with fail
 refine HN.out.mono ?_
 rintro e' w2 ⟨rfl, rfl⟩
 go_wp2_with fail
 refine HCALL.out.mono ?_
 rintro e' w5 ⟨rfl, hbec⟩
 clear HCALL HN
 have hRo : Blk w5 ro 61 y23.toArray := by
  obtain ⟨_, _, _, _, _, hk⟩ := hbec
  exact HO.out.keeps hk (fun e => by rcases e with e | e; exact HRG.out e; exact HRM.out e)
 have hcl := fun w'' (K : Keeps (only ro) w5 w'') => hbec.close (f := f) rfl (fun b hb => .inl hb) (HK1.out.mono (fun _ e => e.elim)) K HR0.out HRL.out (fun e => HRG.out e.symm) (fun e => HRM.out e.symm) HNR.out
 have z0 : w5.cell? ⟨ro, 0, none⟩ = some (.slice none 0 0) := by rw [hRo.cell]; rfl
 have f0 := hRo.frozen 0
 have z1 : w5.cell? ⟨ro, 1, none⟩ = some (.bool false) := by rw [hRo.cell]; rfl
 have f1 := hRo.frozen 1
 have z2 : w5.cell? ⟨ro, 2, none⟩ = some (.bool false) := by rw [hRo.cell]; rfl
 have f2 := hRo.frozen 2
 have z3 : w5.cell? ⟨ro, 3, none⟩ = some (.bool false) := by rw [hRo.cell]; rfl
 have f3 := hRo.frozen 3
 have z4 : w5.cell? ⟨ro, 4, none⟩ = some (.bool false) := by rw [hRo.cell]; rfl
 have f4 := hRo.frozen 4
 have z5 : w5.cell? ⟨ro, 5, none⟩ = some (.int .i64 0) := by rw [hRo.cell]; rfl
 have f5 := hRo.frozen 5
 have HZ := xhd ((((((hRo.set 0 (.slice none 0 0)).set 1 (.bool false)).set 2 (.bool false)).set 3 (.bool false)).set 4 (.bool false)).set 5 (.int .i64 0))
 have KR := (((((((Keeps.refl (only ro) w5).put 0 (.slice none 0 0)).put 1 (.bool false)).put 2 (.bool false)).put 3 (.bool false)).put 4 (.bool false)).put 5 (.int .i64 0))
 have HCL := xhd (HH.out.turned (Pure.act_rules x.n 0) (hcl _ KR))
 clear hRo hcl KR hbec
 go_wp2_with fail
 refine bodyPost_ret (y07 rfl _ _ ro 61 _ (0, 0) _ rfl HZ.out Tryz.underlying61 rfl (by rw [HI.out]; rfl)) rfl ?_
 exact ⟨rfl, HCL.out⟩
structure LS (w0 w : World) (c : Nat → Nat) (R F : Nat → Prop) (V : Value) (l : List Pure.Pkt) (gx : LF) (M : Pure.Lcp) : Prop where
 env : Env14 w0
 bel : Below w0.heap.size w0 w
 me : LAt w gx R M
 win : ∃ ps, ps.map Prod.snd = l ∧ LQWin w F c V ps
 cgx : c gx.g = 1
 cmx : c gx.gm = 1
 cf : ∀ b, F b → c b = 3 ∧ b < w.heap.size
 cr : ∀ b, LR gx R b → c b = 0
 new : ∀ b, b < w.heap.size → c b ≠ 0 → w0.heap.size ≤ b
def y1b (w0 w : World) (V : Value) (l : List Pure.Pkt) (gx : LF) (M : Pure.Lcp) : Prop := ∃ c R F, LS w0 w c R F V l gx M
def y2u (w0 w : World) (V : Value) (l : List Pure.Pkt) (gx : LF) (M : Pure.Lcp) (sv : Value) (s : List Pure.Pkt) : Prop :=
 ∃ c R F, LS w0 w c R F V l gx M ∧ ∃ ps : List (Value × Pure.Pkt), ps.map Prod.snd = s ∧ ps.length ≤ 100 ∧ PRow w (fun b => c b = 0 ∧ b < w.heap.size) sv ps
section
variable {w0 w w' : World} {c : Nat → Nat} {R F : Nat → Prop} {V : Value} {l : List Pure.Pkt} {gx : LF} {M : Pure.Lcp}
theorem LS.quiet (h : LS w0 w c R F V l gx M) (k : Keeps y01 w w') : LS w0 w' c R F V l gx M := by
 refine ⟨h.env, Below.quiet h.bel k h.bel.size, h.me.keeps k (fun e => e) (fun e => e) (fun _ _ e => e), ?_, h.cgx, h.cmx, fun b hb => ⟨(h.cf b hb).1, Nat.lt_of_lt_of_le (h.cf b hb).2 k.size⟩, h.cr, fun b hb hc => ?_⟩
 ·obtain ⟨ps, e1, e2⟩ := h.win
  exact ⟨ps, e1, e2.keeps k (fun _ _ h => h) (fun b hb _ => ⟨fun h => h, hb⟩)⟩
 ·rcases Nat.lt_or_ge b w.heap.size with hl | hl
  ·exact h.new b hl hc
  ·exact Nat.le_trans h.bel.size hl
theorem y1b.quiet (h : y1b w0 w V l gx M) (k : Keeps y01 w w') : y1b w0 w' V l gx M := by
 obtain ⟨c, R, F, h⟩ := h
 exact ⟨c, R, F, h.quiet k⟩
theorem y2u.quiet {sv : Value} {s : List Pure.Pkt} (h : y2u w0 w V l gx M sv s) (k : Keeps y01 w w') : y2u w0 w' V l gx M sv s := by
 obtain ⟨c, R, F, h, ps, e, f, p⟩ := h
 exact ⟨c, R, F, h.quiet k, ps, e, f, (p.keeps k (fun _ _ e => e)).mono (fun b hb => ⟨hb.1, Nat.lt_of_lt_of_le hb.2 k.size⟩)⟩
theorem y1b.form (h : y1b w0 w V l gx M) : ∃ A c, V = .slice A l.length c := by
 obtain ⟨c, R, F, h⟩ := h
 obtain ⟨ps, e1, e2⟩ := h.win
 obtain ⟨A, c, e, _⟩ := e2.win.form
 have hl : ps.length = l.length := by rw [← e1, List.length_map]
 exact ⟨A, c, by rw [← hl]; exact e⟩
theorem y2u.solo {sv : Value} {s : List Pure.Pkt} (h : y2u w0 w V l gx M sv s) : y1b w0 w V l gx M := by
 obtain ⟨c, R, F, h, _⟩ := h
 exact ⟨c, R, F, h⟩
theorem y2u.form {sv : Value} {s : List Pure.Pkt} (h : y2u w0 w V l gx M sv s) : ∃ A c, sv = .slice A s.length c := by
 obtain ⟨_, _, _, _, ps, e1, _, hp⟩ := h
 obtain ⟨A, c, e, _⟩ := hp.form
 have hl : ps.length = s.length := by rw [← e1, List.length_map]
 exact ⟨A, c, by rw [← hl]; exact e⟩
theorem y2u.few {sv : Value} {s : List Pure.Pkt} (h : y2u w0 w V l gx M sv s) : s.length ≤ 100 := by
 obtain ⟨_, _, _, _, ps, e1, h1, _⟩ := h
 have hl : ps.length = s.length := by rw [← e1, List.length_map]
 omega
theorem y1b.below (h : y1b w0 w V l gx M) : Below w0.heap.size w0 w := by
 obtain ⟨c, R, F, h⟩ := h
 exact h.bel
theorem y1b.at (h : y1b w0 w V l gx M) : ∃ R f, LObj w gx R f M := by
 obtain ⟨c, R, F, h⟩ := h
 obtain ⟨f, h1⟩ := h.me
 exact ⟨_, f, h1⟩
def y3i (w0 w : World) (F : Nat → Prop) (V : Value) (l : List Pure.Pkt) (gx : LF) (M : Pure.Lcp) (sv : Value) (s : List Pure.Pkt) : Prop :=
 ∃ c R, LS w0 w c R F V l gx M ∧ ∃ ps : List (Value × Pure.Pkt), ps.map Prod.snd = s ∧ ps.length ≤ 100 ∧ PRow w (fun b => c b = 0 ∧ b < w.heap.size) sv ps
theorem y3i.sent {sv : Value} {s : List Pure.Pkt} (h : y3i w0 w F V l gx M sv s) : y2u w0 w V l gx M sv s := by
 obtain ⟨c, R, h⟩ := h
 exact ⟨c, R, F, h⟩
theorem LS.turned {n' : Pure.Lcp} {o : Pure.LSaid} {v : Value} (h : LS w0 w c R F V l gx M) (ho : y3g w w' v o) (hb : y1k w w' gx R n') :
  ∃ sv, v = .agg #[sv, .bool o.said.up, .bool o.said.down, .bool o.said.start, .bool o.said.done, .int .i64 (o.reject : Int)] ∧ y3i w0 w' F V l gx n' sv o.said.send := by
 obtain ⟨f', R', hn, hsub, k⟩ := hb
 obtain ⟨sv, ps, rfl, hp, he, hfew⟩ := ho
 have hml := h.me.lt
 have hS : ∀ b, c b ≠ 1 → ¬ (b = gx.g ∨ b = gx.gm) := fun b hb e => by
  rcases e with rfl | rfl
  ·exact hb h.cgx
  ·exact hb h.cmx
 have hc : ∀ b, b < w.heap.size → (if w.heap.size ≤ b then 0 else c b) = c b := fun b hb => if_neg (by omega)
 have bel' : Below w0.heap.size w0 w' := ⟨k.os.trans h.bel.os, k.tape.trans h.bel.tape, k.output.trans h.bel.output, Nat.le_trans h.bel.size k.size, fun b hb => (k.block b (Nat.lt_of_lt_of_le hb h.bel.size) (fun e => by
  rcases e with e | e
  ·have := h.new b (Nat.lt_of_lt_of_le hb h.bel.size) (by rw [e, h.cgx]; decide); omega
  ·have := h.new b (Nat.lt_of_lt_of_le hb h.bel.size) (by rw [e, h.cmx]; decide); omega)).trans (h.bel.block b hb)⟩
 refine ⟨sv, rfl, fun b => if w.heap.size ≤ b then 0 else c b, R', ⟨h.env, bel', ⟨f', hn⟩, ?_, ?_, ?_, ?_, ?_, ?_⟩, ps, he, hfew, hp.mono (fun b hb => ⟨if_pos hb.1, hb.2⟩)⟩
 ·obtain ⟨qs, e1, e2⟩ := h.win
  exact ⟨qs, e1, e2.keeps k (fun b hb => hS b (by rw [(h.cf b hb).1]; decide)) (fun b hb hl => ⟨hS b (by rw [hb]; decide), by (try dsimp only); rw [hc b hl]; exact hb⟩)⟩
 ·(try dsimp only); rw [hc _ hml.1]; exact h.cgx
 ·(try dsimp only); rw [hc _ hml.2.1]; exact h.cmx
 ·intro b hb; (try dsimp only); rw [hc b (h.cf b hb).2]; exact ⟨(h.cf b hb).1, Nat.lt_of_lt_of_le (h.cf b hb).2 k.size⟩
 ·intro b hb
  try dsimp only
  rcases Nat.lt_or_ge b w.heap.size with hl | hl
  ·rw [hc b hl]
   rcases hb with rfl | hb
   ·exact h.cr _ (.inl rfl)
   ·rcases hsub b hb with h1 | h1
    ·exact h.cr b (.inr h1)
    ·omega
  ·exact if_pos hl
 ·intro b hb hcb
  rcases Nat.lt_or_ge b w.heap.size with hl | hl
  ·try dsimp only at hcb
   rw [hc b hl] at hcb
   exact h.new b hl hcb
  ·exact Nat.le_trans h.bel.size hl
def LSays (w0 : World) (V : Value) (l : List Pure.Pkt) (gx : LF) (n' : Pure.Lcp) (o : Pure.LSaid) (r : Ending) (w' : World) : Prop :=
 ∃ sv, r = .returned (.agg #[sv, .bool o.said.up, .bool o.said.down, .bool o.said.start, .bool o.said.done, .int .i64 (o.reject : Int)]) ∧ y2u w0 w' V l gx n' sv o.said.send
theorem y1b.acts (h : y1b w0 w V l gx M) (e : Int) (he : e = 0 ∨ e = 1 ∨ e = 2 ∨ e = 3) (hnk : M.n.naks ≤ 1000) {n' : Pure.Lcp} {o : Pure.LSaid} (hE : M.act e = (n', o)) :
  Calls Tryz.prog 28 #[.pointer (some ⟨gx.l, 0, none⟩), .int .i64 e] w (LSays w0 V l gx n' o) := by
 obtain ⟨c, R, F, h⟩ := h
 obtain ⟨f, hn⟩ := h.me
 have hcall := y56 hn e he hnk
 rw [hE] at hcall
 refine hcall.mono ?_
 rintro r w' ⟨v, rfl, ho, hb⟩
 obtain ⟨sv, rfl, hp⟩ := h.turned ho hb
 exact ⟨sv, rfl, hp.sent⟩
theorem y1b.ticks (h : y1b w0 w V l gx M) (hnk : M.n.naks ≤ 1000) {n' : Pure.Lcp} {o : Pure.LSaid} (hE : M.tick = (n', o)) :
  Calls Tryz.prog 33 #[.pointer (some ⟨gx.l, 0, none⟩)] w (LSays w0 V l gx n' o) := by
 obtain ⟨c, R, F, h⟩ := h
 obtain ⟨f, hn⟩ := h.me
 have hcall := ltick_any hn hnk
 rw [hE] at hcall
 refine hcall.mono ?_
 rintro r w' ⟨v, rfl, ho, hb⟩
 obtain ⟨sv, rfl, hp⟩ := h.turned ho hb
 exact ⟨sv, rfl, hp.sent⟩
def SHand (w : World) (gx : LF) (d : Value) (p : Pure.Pkt) : Prop := Row w (fun b => b < w.heap.size ∧ b ≠ gx.g ∧ b ≠ gx.gm) 1 d p.data.length (u8s p.data)
theorem SHand.quiet {d : Value} {p : Pure.Pkt} (h : SHand w gx d p) (k : Keeps y01 w w') : SHand w' gx d p :=
 (Row.keeps h k (fun _ _ e => e)).mono (fun _ hb => ⟨Nat.lt_of_lt_of_le hb.1 k.size, hb.2⟩)
theorem LS.hears (h : LS w0 w c R F V l gx M) (d : Value) (p : Pure.Pkt) (hd : SHand w gx d p) (hnk : M.n.naks ≤ 1000) (hdr : M.n.dropped ≤ 1000000) (hL : p.data.length ≤ 1000000) {n' : Pure.Lcp} {o : Pure.LSaid} (hE : M.input p = (n', o)) :
  Calls Tryz.prog 30 #[.pointer (some ⟨gx.l, 0, none⟩), pktV p d] w fun r w' => ∃ sv, r = .returned (.agg #[sv, .bool o.said.up, .bool o.said.down, .bool o.said.start, .bool o.said.done, .int .i64 (o.reject : Int)]) ∧ y3i w0 w' F V l gx n' sv o.said.send ∧ Keeps (fun b => b = gx.g ∨ b = gx.gm) w w' := by
 obtain ⟨f, hn⟩ := h.me
 have henv : Env14 w := h.env.below h.bel
 obtain ⟨a, ha⟩ := henv.sent
 have hcall := y4q hn _ p d a henv.env.hd ha (fun b hb => ⟨hb.1, hb.2.1, hb.2.2⟩) hd hnk hdr hL
 rw [hE] at hcall
 refine hcall.mono ?_
 rintro r w' ⟨v, rfl, ho, hb⟩
 obtain ⟨sv, rfl, hp⟩ := h.turned ho hb
 obtain ⟨_, _, _, _, k⟩ := hb
 exact ⟨sv, rfl, hp, k⟩
theorem y1b.head {p : Pure.Pkt} {t : List Pure.Pkt} (h : y1b w0 w V (p :: t) gx M) : ∃ bb oo cc d, V = .slice (some ⟨bb, oo, none⟩) (t.length + 1) cc ∧ t.length + 1 ≤ cc ∧ (∀ j u, (y2s (d, p))[j]? = some u → w.cell? ⟨bb, oo + j, none⟩ = some u) ∧ SHand w gx d p := by
 obtain ⟨c, R, F, h⟩ := h
 obtain ⟨ps, e1, e2⟩ := h.win
 obtain ⟨⟨d, p'⟩, ps, rfl⟩ : ∃ q r, ps = q :: r := by
  cases ps with
  | nil => simp at e1
  | cons q r => exact ⟨q, r, rfl⟩
 rw [List.map_cons] at e1
 injection e1 with e1 e3
 have e1 : p' = p := e1
 subst e1
 have hl : ps.length = t.length := by rw [← e3, List.length_map]
 obtain ⟨hx, A, cap, rfl, hc1, hc2, hc3⟩ := e2.win
 rw [List.length_cons] at hc1 hx
 rcases hc3 with hc3 | ⟨bb, oo, cur, rfl, hFb, hB, hs, hcell⟩
 ·omega
 refine ⟨bb, oo, cap, d, by rw [List.length_cons, hl], by omega, fun j u hu => ?_, ?_⟩
 ·rw [hB.cell]
  refine hcell j u ?_
  have hj : j < 3 := (List.getElem?_eq_some_iff.1 hu).1
  have := y6f ((d, p') :: ps) 0 j (d, p') rfl hj
  rw [Nat.zero_mul, Nat.zero_add] at this
  rw [this]; exact hu
 ·refine (e2.rows (d, p') List.mem_cons_self).mono (fun b hb => ⟨hb.2, ?_, ?_⟩)
  ·rintro rfl; rw [h.cgx] at hb; exact absurd hb.1 (by decide)
  ·rintro rfl; rw [h.cmx] at hb; exact absurd hb.1 (by decide)
theorem LS.tail {p : Pure.Pkt} {t : List Pure.Pkt} {A : Option Addr} {cc : Nat} (h : LS w0 w c R F (.slice A (t.length + 1) cc) (p :: t) gx M) : LS w0 w c R F (cutS A cc 1 t.length 3) t gx M := by
 obtain ⟨ps, e1, e2⟩ := h.win
 obtain ⟨q, ps, rfl⟩ : ∃ q r, ps = q :: r := by
  cases ps with
  | nil => simp at e1
  | cons q r => exact ⟨q, r, rfl⟩
 rw [List.map_cons] at e1
 injection e1 with e1 e3
 have hl : ps.length = t.length := by rw [← e3, List.length_map]
 refine ⟨h.env, h.bel, h.me, ⟨ps, e3, ?_, fun q' hq => e2.rows q' (List.mem_cons_of_mem _ hq)⟩, h.cgx, h.cmx, h.cf, h.cr, h.new⟩
 have hw := e2.win
 rw [← hl, List.length_cons] at hw
 have ht := hw.tail
 have hd : (y0l (q :: ps)).drop 3 = y0l ps := by simp [y0l, y2s, List.flatMap_cons]
 rw [hd] at ht
 rw [← hl]
 exact ht
theorem y2u.tail {p : Pure.Pkt} {t s : List Pure.Pkt} {A : Option Addr} {cc : Nat} {sv : Value} (h : y2u w0 w (.slice A (t.length + 1) cc) (p :: t) gx M sv s) : y2u w0 w (cutS A cc 1 t.length 3) t gx M sv s := by
 obtain ⟨c, R, F, h, r⟩ := h
 exact ⟨c, R, F, h.tail, r⟩
theorem y3i.tail {p : Pure.Pkt} {t s : List Pure.Pkt} {A : Option Addr} {cc : Nat} {sv : Value} (h : y3i w0 w F (.slice A (t.length + 1) cc) (p :: t) gx M sv s) : y3i w0 w F (cutS A cc 1 t.length 3) t gx M sv s := by
 obtain ⟨c, R, h, r⟩ := h
 exact ⟨c, R, h.tail, r⟩
theorem y3i.put {sv : Value} {s : List Pure.Pkt} (h : y3i w0 w F V l gx M sv s) (hlo : l.length ≤ 90000) : ∃ G xs ys, y14 w F 56 3 V l.length xs ∧ Row w G 3 sv s.length ys ∧ (∀ u ∈ ys, u.oneCell' = true) ∧ l.length + s.length ≤ 100000 ∧
  ∀ v' w', y14 w' (fun b => F b ∨ w.heap.size ≤ b) 56 3 v' (l.length + s.length) (xs ++ ys) → Keeps F w w' → y1b w0 w' v' (l ++ s) gx M := by
 obtain ⟨c, R, h, ps, hps, hfew, hrow⟩ := h
 obtain ⟨qs, hqs, hq⟩ := h.win
 have hl1 : qs.length = l.length := by rw [← hqs, List.length_map]
 have hl2 : ps.length = s.length := by rw [← hps, List.length_map]
 refine ⟨_, y0l qs, y0l ps, by rw [← hl1]; exact hq.win, by rw [← hl2]; exact hrow.out, ?_, by omega, fun v' w' hwin k => ?_⟩
 ·intro u hu
  obtain ⟨p, hp, hu⟩ := List.mem_flatMap.1 hu
  obtain ⟨A, cc, e, _⟩ := (hrow.rows p hp).form
  simp only [y2s, List.mem_cons, List.not_mem_nil, or_false] at hu
  rcases hu with rfl | rfl | rfl
  ·rfl
  ·rfl
  ·rw [e]; rfl
 have hml := h.me.lt
 have hn4 : ∀ b, c b ≠ 3 → ¬ F b := fun b hb e => hb (h.cf b e).1
 have hc : ∀ b, b < w.heap.size → (if w.heap.size ≤ b then 3 else c b) = c b := fun b hb => if_neg (by omega)
 have bel2 : Below w0.heap.size w0 w' := ⟨k.os.trans h.bel.os, k.tape.trans h.bel.tape, k.output.trans h.bel.output, Nat.le_trans h.bel.size k.size, fun b hb => (k.block b (Nat.lt_of_lt_of_le hb h.bel.size) (fun e => by
  have := h.new b (Nat.lt_of_lt_of_le hb h.bel.size) (by rw [(h.cf b e).1]; decide)
  omega)).trans (h.bel.block b hb)⟩
 refine ⟨fun b => if w.heap.size ≤ b then 3 else c b, R, fun b => (F b ∨ w.heap.size ≤ b) ∧ b < w'.heap.size, h.env, bel2, h.me.keeps k (hn4 _ (by rw [h.cgx]; decide)) (hn4 _ (by rw [h.cmx]; decide)) (fun b hb => hn4 b (by rw [h.cr b hb]; decide)), ?_, ?_, ?_, ?_, ?_, ?_⟩
 ·refine ⟨qs ++ ps, by rw [List.map_append, hqs, hps], ⟨?_, fun p hp => ?_⟩⟩
  ·have e : y0l (qs ++ ps) = y0l qs ++ y0l ps := by simp [y0l, List.flatMap_append]
   rw [e, List.length_append, hl1, hl2]
   exact hwin.mono (fun b hb hl => ⟨hb, hl⟩)
  ·have hr : Row w (fun b => c b = 0 ∧ b < w.heap.size) 1 p.1 p.2.data.length (u8s p.2.data) := by
    rcases List.mem_append.1 hp with hp | hp
    ·exact hq.rows p hp
    ·exact hrow.rows p hp
   exact (hr.keeps k (fun b hb => hn4 b (by rw [hb.1]; decide))).mono (fun b hb => ⟨by (try dsimp only); rw [hc b hb.2]; exact hb.1, Nat.lt_of_lt_of_le hb.2 k.size⟩)
 ·(try dsimp only); rw [hc _ hml.1]; exact h.cgx
 ·(try dsimp only); rw [hc _ hml.2.1]; exact h.cmx
 ·rintro b ⟨hb, hl⟩
  refine ⟨?_, hl⟩
  try dsimp only
  rcases hb with hb | hb
  ·rw [hc b (h.cf b hb).2]; exact (h.cf b hb).1
  ·exact if_pos hb
 ·intro b hb; (try dsimp only); rw [hc b (hml.2.2 b hb)]; exact h.cr b hb
 ·intro b hb hcb
  rcases Nat.lt_or_ge b w.heap.size with hl | hl
  ·try dsimp only at hcb
   rw [hc b hl] at hcb
   exact h.new b hl hcb
  ·exact Nat.le_trans h.bel.size hl
theorem y2u.put {sv : Value} {s : List Pure.Pkt} (h : y2u w0 w V l gx M sv s) (hlo : l.length ≤ 90000) : ∃ F G xs ys, y14 w F 56 3 V l.length xs ∧ Row w G 3 sv s.length ys ∧ (∀ u ∈ ys, u.oneCell' = true) ∧ l.length + s.length ≤ 100000 ∧
  ∀ v' w', y14 w' (fun b => F b ∨ w.heap.size ≤ b) 56 3 v' (l.length + s.length) (xs ++ ys) → Keeps F w w' → y1b w0 w' v' (l ++ s) gx M := by
 obtain ⟨c, R, F, h⟩ := h
 exact ⟨F, y3i.put ⟨c, R, h⟩ hlo⟩
theorem y1b.state (h : y1b w0 w V l gx M) : Calls Tryz.prog 40 #[.pointer (some ⟨gx.l, 0, none⟩)] w fun e w' => e = .returned (.int .i64 (M.n.m.state : Nat)) ∧ w = w' := by
 obtain ⟨R, f, h⟩ := h.at
 exact y2l h
theorem y1b.mines (h : y1b w0 w V l gx M) : Calls Tryz.prog 42 #[.pointer (some ⟨gx.l, 0, none⟩)] w fun e w' => e = .returned (y0n M.mine) ∧ Keeps y01 w w' := by
 obtain ⟨R, f, h⟩ := h.at
 exact y3o h
theorem solo_new {wA wB wC : World} {f : NF} {X : Pure.Lcp} (env : Env14 w0) (bel : Below w0.heap.size w0 wA) (k1 : Keeps y01 wA wB) (hx : LObj wB gx R f X) (x1 : wA.heap.size ≤ gx.g) (x2 : wA.heap.size ≤ gx.gm) (k2 : Keeps y01 wB wC) : y1b w0 wC (.slice none 0 0) [] gx X := by
 have hB := bel.size
 refine ⟨fun b => if b = gx.g ∨ b = gx.gm then 1 else 0, R, y01, env, Below.quiet bel (k1.trans k2) bel.size, ⟨f, hx.quiet k2⟩, ⟨[], rfl, y14.nil _ _ _ _, by simp⟩, by simp, by simp, fun b h => h.elim, ?_, ?_⟩
 ·intro b hb
  refine if_neg ?_
  rcases hb with rfl | hb
  ·exact fun e => e.elim hx.lg hx.lm
  ·rintro (e | e)
   ·exact hx.obj.ng (e ▸ hb)
   ·exact hx.obj.nm (by rw [hx.gm', ← e]; exact hb)
 ·intro b _ hb
  by_cases h1 : b = gx.g ∨ b = gx.gm
  ·rcases h1 with rfl | rfl <;> omega
  ·exact absurd (if_neg h1) hb
theorem y1b.up (h : y1b w0 w V l gx M) (hnil : (M.n.m.act2 (0 : Int)).1 = []) {n' : Pure.Lcp} {o : Pure.LSaid} (hE : M.act 0 = (n', o)) (hs : o.said.send = []) :
  Calls Tryz.prog 28 #[.pointer (some ⟨gx.l, 0, none⟩), .int .i64 0] w fun r w' => r = .returned (.agg #[.slice none 0 0, .bool false, .bool false, .bool false, .bool false, .int .i64 0]) ∧ y1b w0 w' V l gx n' := by
 obtain ⟨c, R, F, h⟩ := h
 obtain ⟨f, hn⟩ := h.me
 have hcall := ldo_up_nil hn hnil
 rw [hE] at hcall
 refine hcall.mono ?_
 rintro r w' ⟨rfl, hb⟩
 obtain ⟨sv, _, hp⟩ := h.turned (v := .agg #[.slice none 0 0, .bool o.said.up, .bool o.said.down, .bool o.said.start, .bool o.said.done, .int .i64 (o.reject : Int)]) (o := o) ⟨.slice none 0 0, [], rfl, PRow.nil _ _, by rw [hs]; rfl, by simp⟩ hb
 exact ⟨rfl, hp.sent.solo⟩
end
theorem y89 {w : World} {ops : Array Oper} {rest : List Oper} {o : Oper} {a : Act} {Q : Exit → Act → World → Prop} (hgd : o.guard = none) (s x : Operand) (ho : o.op = .call { callee := .builtin .append, args := #[s, x], argTypes := #[57, 57] })
  {F G : Nat → Prop} {n m : Nat} {v y : Value} {xs ys : List Value} (hs : a.eval s = v) (hx : a.eval x = y) (h : y14 w F 56 3 v n xs) (hr : Row w G 3 y m ys) (h1 : ∀ u ∈ ys, u.oneCell' = true) (hlen : n + m ≤ 100000)
  (hK : ∀ v' w', y14 w' (fun b => F b ∨ w.heap.size ≤ b) 56 3 v' (n + m) (xs ++ ys) → Keeps F w w' → wpList Tryz.prog ops Q rest (a.put o.dst v') w') : wpList Tryz.prog ops Q (o :: rest) a w :=
 wpList_plain hgd fun _ hK' => y0u s x ho hs hx h hr h1 hlen fun v' w' h2 h3 => hK' _ _ (hK v' w' h2 h3)
namespace Pure
theorem naked_fine {rules : List Rule} {ask nak : List Opt} (ha : Fine ask) (hn : Fine nak) : Fine (naked rules ask nak) := by
 refine ⟨by unfold naked; rw [List.length_map]; exact ha.len, fun o ho => ?_⟩
 unfold naked at ho
 obtain ⟨x, hx, rfl⟩ := List.mem_map.1 ho
 have h0 := ha.odd x hx
 unfold nakedOne
 split
 ·exact h0
 ·rename_i p hp
  have hpn := hn.odd p (List.mem_of_find?_eq_some hp)
  split
  ·exact h0
  ·rename_i r hr
   unfold Opt.odd at h0 hpn ⊢
   split
   ·dsimp only; omega
   ·split
    ·rename_i hc
     have := hc.2.1; have := hc.2.2.1
     dsimp only
     rw [wide_length]; omega
    ·split
     ·rename_i hc
      have := hc.2.1; have := hc.2.2.1
      dsimp only
      rw [wide_length]; omega
     ·exact h0
theorem left_fine {rules : List Rule} {ask rej : List Opt} (ha : Fine ask) : Fine (left rules ask rej) := y0w ha _
end Pure
end Go.Proofs.YtmgicbckgpdkcaaGreatDoor
