/- The program's machine: Do, Tick; what package fsm answers. -/
import Derived.Test.YtjeekhgkcphnpaaFsmM
import Derived.Test.YtjeekhgkcphnpaaLaw12A
namespace Go.Proofs.Ytjeekhgkcphnpaa
open Go.RowKit
namespace Pure
theorem rest_good {m : Mach} (h : m.Good) : ({ m with state := m.state } : Mach).rest = m := by
  unfold Mach.rest
  split
  · rename_i hr
    have := h.rest hr
    cases m
    simp at this ⊢
    exact this.symm
  · rfl
end Pure
theorem prog_event (g e : Nat) (m : Pure.Mach) (w : World) (hm : PMach w g m) (hs : m.state ≤ 9) (he : e < 16) (hc : m.count ≤ m.tries) (ht : m.tries ≤ 1000) :
    Calls Try.prog 29 #[.pointer (some ⟨g, 0, none⟩), .int .i64 e] w fun r w' => ∃ A c, r = .returned (.slice A (m.step e).1.length c) ∧ Row w' (fun b => w.heap.size ≤ b) 1 (.slice A (m.step e).1.length c) (m.step e).1.length (ints (m.step e).1) ∧ PMach w' g (m.step e).2 ∧ Keeps (only g) w w' :=
  prog_mstep_any g (Pure.fsmAt m.state e).2 e (Pure.fsmAt m.state e).1 m w hm (Pure.fsmAt_le m.state (by omega) e he).1 (fsmStep_in m.state e (by omega) he) hc ht
theorem prog_other (g : Nat) (e : Int) (m : Pure.Mach) (w : World) (hm : PMach w g m) (hg : m.Good) (he : ¬ (0 ≤ e ∧ e < 16)) (ht : m.tries ≤ 1000) :
    Calls Try.prog 29 #[.pointer (some ⟨g, 0, none⟩), .int .i64 e] w fun r w' => ∃ A c, r = .returned (.slice A ([] : List Nat).length c) ∧ Row w' (fun b => w.heap.size ≤ b) 1 (.slice A ([] : List Nat).length c) ([] : List Nat).length (ints []) ∧ PMach w' g m ∧ Keeps (only g) w w' := by
  have := prog_mstep_any g m.state e [] m w hm hg.state (fsmStep_out (by omega)) hg.count ht
  rw [List.foldl_nil, Pure.rest_good hg] at this
  exact this
theorem prog_do_any (g : Nat) (e : Int) (m : Pure.Mach) (w : World) (hm : PMach w g m) (hg : m.Good) (ht : m.tries ≤ 1000) :
    Calls Try.prog 15 #[.pointer (some ⟨g, 0, none⟩), .int .i64 e] w fun r w' => ∃ A c, r = .returned (.slice A (m.act2 e).1.length c) ∧ Row w' (fun b => w.heap.size ≤ b) 1 (.slice A (m.act2 e).1.length c) (m.act2 e).1.length (ints (m.act2 e).1) ∧ PMach w' g (m.act2 e).2 ∧ Keeps (only g) w w' := by
  have HMD := Lib.hid (made_any g m w hm hg.tries)
  by_cases h45 : e = 4 ∨ e = 5
  · have hA : m.act2 e = ([], m) := by rcases h45 with rfl | rfl <;> rfl
    rw [hA]
    have HM := Lib.hid hm
    clear hA hm hg ht
    rcases h45 with rfl | rfl
    all_goals
      go_enter Try.func15, Try.ntmps15
      go_wp2_with fail
      refine HMD.out.mono ?_
      rintro r w1 ⟨rfl, rfl⟩
      go_wp2
      go_ret
      exact ⟨_, _, rfl, Row.nil _ _ _, HM.out, Keeps.refl _ _⟩
  · have q4 : (e == 4) = false := by rw [beq_eq_false_iff_ne]; omega
    have q5 : (e == 5) = false := by rw [beq_eq_false_iff_ne]; omega
    have HS : ∃ l M', m.act2 e = (l, M') ∧ Calls Try.prog 29 #[.pointer (some ⟨g, 0, none⟩), .int .i64 e] w fun r w' => ∃ A c, r = .returned (.slice A l.length c) ∧ Row w' (fun b => w.heap.size ≤ b) 1 (.slice A l.length c) l.length (ints l) ∧ PMach w' g M' ∧ Keeps (only g) w w' := by
      by_cases he : 0 ≤ e ∧ e < 16
      · obtain ⟨n, rfl⟩ : ∃ n : Nat, e = (n : Int) := ⟨e.toNat, by omega⟩
        exact ⟨_, _, Pure.act2_step (show Pure.does (n : Int) by unfold Pure.does; omega) m, prog_event g n m w hm hg.state (by omega) hg.count ht⟩
      · exact ⟨[], m, if_neg (show ¬ Pure.does e by unfold Pure.does; omega), prog_other g e m w hm hg he ht⟩
    obtain ⟨l, M', hA, HS⟩ := HS
    rw [hA]
    have HS := Lib.hid HS
    clear hA hm hg ht h45
    go_enter Try.func15, Try.ntmps15
    go_wp2_with fail
    refine HMD.out.mono ?_
    rintro r w1 ⟨rfl, rfl⟩
    go_wp2_with fail
    refine HS.out.mono ?_
    rintro r w2 ⟨A, c, rfl, hu, hm2, hk⟩
    have HU := Lib.hid hu
    have HM := Lib.hid hm2
    have HK := Lib.hid hk
    clear hu hm2 hk HS
    go_wp2
    go_ret
    exact ⟨A, c, rfl, HU.out, HM.out, HK.out⟩
theorem prog_tick_any (g : Nat) (m : Pure.Mach) (w : World) (hm : PMach w g m) (hg : m.Good) (ht : m.tries ≤ 1000) (hu : m.timeout ≤ 1000) :
    Calls Try.prog 16 #[.pointer (some ⟨g, 0, none⟩)] w fun r w' => ∃ A c, r = .returned (.slice A m.tick.1.length c) ∧ Row w' (fun b => w.heap.size ≤ b) 1 (.slice A m.tick.1.length c) m.tick.1.length (ints m.tick.1) ∧ PMach w' g m.tick.2 ∧ Keeps (only g) w w' := by
  have HMD := Lib.hid (made_any g m w hm hg.tries)
  have hg3 : w.cell? ⟨g, 3, none⟩ = some (.int .i64 (m.count : Nat)) := by rw [Blk.cell hm]; rfl
  have hg4 : w.cell? ⟨g, 4, none⟩ = some (.int .i64 (m.left : Nat)) := by rw [Blk.cell hm]; rfl
  have y4 := Blk.frozen hm 4
  have HM := Lib.hid hm
  have HG := Lib.hid hg
  have HT := Lib.hid ht
  clear hg ht
  by_cases h0 : m.left = 0
  · rw [Pure.tick_stops h0]
    rw [h0] at hg4
    have hg4 : w.cell? ⟨g, 4, none⟩ = some (.int .i64 0) := hg4
    clear h0 hm hg3 y4
    go_enter Try.func16, Try.ntmps16
    go_wp2_with fail
    refine HMD.out.mono ?_
    rintro r w1 ⟨rfl, rfl⟩
    go_wp2
    go_ret
    exact ⟨_, _, rfl, Row.nil _ _ _, HM.out, Keeps.refl _ _⟩
  · obtain ⟨L, hL⟩ : ∃ L, m.left = L + 1 := ⟨m.left - 1, by omega⟩
    have hll := HG.out.left
    have hm2 := Blk.set hm 4 (.int .i64 (L : Nat))
    have HS := Lib.hid ((Keeps.refl (only g) w).store g 4 (fun _ => rfl) (.int .i64 (L : Nat)))
    have HM2 := Lib.hid (show PMach (w.setCell ⟨g, 4, none⟩ (.int .i64 (L : Nat))) g { m with left := L } from hm2)
    have k1 : (w.setCell ⟨g, 4, none⟩ (.int .i64 (L : Nat))).cell? ⟨g, 3, none⟩ = some (.int .i64 (m.count : Nat)) := by rw [hm2.cell]; rfl
    have k2 : (w.setCell ⟨g, 4, none⟩ (.int .i64 (L : Nat))).cell? ⟨g, 4, none⟩ = some (.int .i64 (L : Nat)) := by rw [hm2.cell]; rfl
    rw [hL] at hg4
    have e1 : ((L + 1 : Nat) : Int) - 1 = (L : Int) := by omega
    have e2 : (((L + 1 : Nat) : Int) == 0) = false := by rw [beq_eq_false_iff_ne]; omega
    have lw : wrap64 (L : Int) = (L : Int) := IntWalk.wrap64_in _ (by omega)
    by_cases hL0 : 0 < L
    · have ht : m.tick = ([], { m with left := L }) := by
        unfold Pure.Mach.tick
        rw [if_neg (by omega), if_pos (by omega), hL]
        rfl
      rw [ht]
      have d0 : decide ((0 : Int) < (L : Int)) = true := decide_eq_true (by omega)
      have d1 : decide (0 < L) = true := decide_eq_true hL0
      clear ht hm hm2 hL h0 k1
      go_enter Try.func16, Try.ntmps16
      go_wp2_with fail
      refine HMD.out.mono ?_
      rintro r w1 ⟨rfl, rfl⟩
      go_wp2
      go_ret
      exact ⟨_, _, rfl, Row.nil _ _ _, HM2.out, HS.out⟩
    · have hz : L = 0 := by omega
      subst hz
      have hst := HG.out.state
      have hg4 : w.cell? ⟨g, 4, none⟩ = some (.int .i64 1) := hg4
      have k1 : (w.setCell ⟨g, 4, none⟩ (.int .i64 0)).cell? ⟨g, 3, none⟩ = some (.int .i64 (m.count : Nat)) := k1
      have k2 : (w.setCell ⟨g, 4, none⟩ (.int .i64 0)).cell? ⟨g, 4, none⟩ = some (.int .i64 0) := k2
      have HS0 := Lib.hid (show Keeps (only g) w (w.setCell ⟨g, 4, none⟩ (.int .i64 0)) from HS.out)
      clear HS
      by_cases hc : 0 < m.count
      · have ht : m.tick = Pure.Mach.step { m with left := 0 } 4 := by
          unfold Pure.Mach.tick
          rw [if_neg (by omega), if_neg (by omega), if_pos hc]
        rw [ht]
        have HST := prog_event g 4 { m with left := 0 } _ HM2.out hst (by omega) HG.out.count HT.out
        generalize Pure.Mach.step { m with left := 0 } 4 = R at HST ⊢
        have HST := Lib.hid (show Calls Try.prog 29 #[.pointer (some ⟨g, 0, none⟩), .int .i64 4] (w.setCell ⟨g, 4, none⟩ (.int .i64 0)) fun r w' => ∃ A c, r = .returned (.slice A R.1.length c) ∧ Row w' (fun b => (w.setCell ⟨g, 4, none⟩ (.int .i64 0)).heap.size ≤ b) 1 (.slice A R.1.length c) R.1.length (ints R.1) ∧ PMach w' g R.2 ∧ Keeps (only g) (w.setCell ⟨g, 4, none⟩ (.int .i64 0)) w' from HST)
        have d0 : decide ((0 : Int) < (m.count : Int)) = true := decide_eq_true (by omega)
        have d1 : decide (0 < m.count) = true := decide_eq_true hc
        clear ht hm hm2 hL h0 hL0 hc e1 e2 lw hst hll
        go_enter Try.func16, Try.ntmps16
        go_wp2_with fail
        refine HMD.out.mono ?_
        rintro r w1 ⟨rfl, rfl⟩
        go_wp2_with fail
        refine HST.out.mono ?_
        rintro r w2 ⟨A, c, rfl, hu, hm3, hk⟩
        have HU := Lib.hid (hu.mono (fun b hb => Nat.le_trans HS0.out.size hb))
        have HM3 := Lib.hid hm3
        have HK := Lib.hid (HS0.out.trans hk)
        clear hu hm3 hk HST k1 k2 hg3 hg4 y4
        go_wp2
        go_ret
        exact ⟨A, c, rfl, HU.out, HM3.out, HK.out⟩
      · have ht : m.tick = Pure.Mach.step { m with left := 0 } 5 := by
          unfold Pure.Mach.tick
          rw [if_neg (by omega), if_neg (by omega), if_neg hc]
        rw [ht]
        have HST := prog_event g 5 { m with left := 0 } _ HM2.out hst (by omega) HG.out.count HT.out
        generalize Pure.Mach.step { m with left := 0 } 5 = R at HST ⊢
        have HST := Lib.hid (show Calls Try.prog 29 #[.pointer (some ⟨g, 0, none⟩), .int .i64 5] (w.setCell ⟨g, 4, none⟩ (.int .i64 0)) fun r w' => ∃ A c, r = .returned (.slice A R.1.length c) ∧ Row w' (fun b => (w.setCell ⟨g, 4, none⟩ (.int .i64 0)).heap.size ≤ b) 1 (.slice A R.1.length c) R.1.length (ints R.1) ∧ PMach w' g R.2 ∧ Keeps (only g) (w.setCell ⟨g, 4, none⟩ (.int .i64 0)) w' from HST)
        have d0 : decide ((0 : Int) < (m.count : Int)) = false := decide_eq_false (by omega)
        have d1 : decide (0 < m.count) = false := decide_eq_false hc
        clear ht hm hm2 hL h0 hL0 hc e1 e2 lw hst hll
        go_enter Try.func16, Try.ntmps16
        go_wp2_with fail
        refine HMD.out.mono ?_
        rintro r w1 ⟨rfl, rfl⟩
        go_wp2_with fail
        refine HST.out.mono ?_
        rintro r w2 ⟨A, c, rfl, hu, hm3, hk⟩
        have HU := Lib.hid (hu.mono (fun b hb => Nat.le_trans HS0.out.size hb))
        have HM3 := Lib.hid hm3
        have HK := Lib.hid (HS0.out.trans hk)
        clear hu hm3 hk HST k1 k2 hg3 hg4 y4
        go_wp2
        go_ret
        exact ⟨A, c, rfl, HU.out, HM3.out, HK.out⟩
/-- A machine of the program's, wherever it lies. -/
def PObj (w : World) (S : Nat → Prop) (v : Value) (m : Pure.Mach) : Prop := ∃ g, v = .pointer (some ⟨g, 0, none⟩) ∧ S = only g ∧ PMach w g m ∧ 1 ≤ m.tries
theorem fsm_ok : FsmOk PObj where
  keeps := by
    rintro w w' S T v m ⟨g, rfl, rfl, hm, ht⟩ k hs
    exact ⟨g, rfl, rfl, hm.keeps k (hs g rfl), ht⟩
  ptr := by
    rintro w S v m ⟨g, rfl, _⟩
    exact ⟨_, rfl⟩
  lt := by
    rintro w S v m ⟨g, rfl, rfl, hm, _⟩ b hb
    have hb : b = g := hb
    rw [hb]
    exact Blk.lt hm
  new := by
    intro t u w h
    refine (new_ok t u w h).mono ?_
    rintro r w' ⟨rfl, hm, hk⟩
    refine ⟨only w.heap.size, _, rfl, ⟨_, rfl, rfl, hm, ?_⟩, fun b hb => ?_, hk⟩
    · unfold mayBe at h
      show 1 ≤ t
      omega
    · have hb : b = w.heap.size := hb
      omega
  newBad := by
    intro t u w h
    refine (new_bad t u w h).mono ?_
    rintro r w' ⟨rfl, rfl⟩
    exact ⟨rfl, Keeps.refl _ _⟩
  act := by
    rintro S v m e w ⟨g, rfl, rfl, hm, h1⟩ hg ht _
    refine (prog_do_any g e m w hm hg ht).mono ?_
    rintro r w' ⟨A, c, rfl, hr, hm', hk⟩
    exact ⟨A, c, rfl, hr, ⟨g, rfl, rfl, hm', by rw [(Pure.act2_good hg e).2.1]; exact h1⟩, hk⟩
  tick := by
    rintro S v m w ⟨g, rfl, rfl, hm, h1⟩ hg ht hu
    refine (prog_tick_any g m w hm hg ht hu).mono ?_
    rintro r w' ⟨A, c, rfl, hr, hm', hk⟩
    exact ⟨A, c, rfl, hr, ⟨g, rfl, rfl, hm', by rw [(Pure.tick_good hg).2.1]; exact h1⟩, hk⟩
  state := by
    rintro S v m w ⟨g, rfl, rfl, hm, h1⟩
    exact state_any g m w hm h1
  count := by
    rintro S v m w ⟨g, rfl, rfl, hm, h1⟩
    exact count_any g m w hm h1
  running := by
    rintro S v m w ⟨g, rfl, rfl, hm, h1⟩
    exact running_any g m w hm h1
  step := by
    intro s e w
    refine (prog_step_any s e w).mono ?_
    rintro r w' ⟨A, c, rfl, hr, hb⟩
    exact ⟨A, c, rfl, hr, hb⟩
end Go.Proofs.Ytjeekhgkcphnpaa
