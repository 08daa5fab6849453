/- The document's machine of the automaton: NewMachine, Do, Tick. -/
import Derived.Test.YtjeekhgkcphnpaaFsmD
namespace Go.Proofs.Ytjeekhgkcphnpaa
open Go.RowKit
def mayBe (t u : Int) : Prop := 1 ≤ t ∧ t ≤ 1000 ∧ 1 ≤ u ∧ u ≤ 1000
instance (t u : Int) : Decidable (mayBe t u) := by unfold mayBe; infer_instance
theorem docnew_ok (t u : Nat) (w : World) (h : mayBe t u) : Calls Try.prog 22 #[.int .i64 t, .int .i64 u] w fun r w' => r = .returned (.tuple #[.pointer (some ⟨w.heap.size, 0, none⟩), .int .i64 0]) ∧ DMach w' w.heap.size (Pure.newMach t u) ∧ Keeps nobody w w' := by
  unfold mayBe at h
  have d0 : decide ((t : Int) < 1) = false := decide_eq_false (by omega)
  have d1 : decide ((1000 : Int) < (t : Int)) = false := decide_eq_false (by omega)
  have d2 : decide ((u : Int) < 1) = false := decide_eq_false (by omega)
  have d3 : decide ((1000 : Int) < (u : Int)) = false := decide_eq_false (by omega)
  have HB := Lib.hid (show DMach (w.alloc (.cells (machCells (Pure.newMach t u)) 39)) w.heap.size (Pure.newMach t u) from Blk.new w _ _)
  have HK := Lib.hid ((Keeps.refl nobody w).alloc (.cells (machCells (Pure.newMach t u)) 39))
  clear h
  go_enter Try.func22, Try.ntmps22
  go_wp2
  go_ret2
  exact ⟨rfl, HB.out, HK.out⟩
theorem docnew_bad (t u : Int) (w : World) (h : ¬ mayBe t u) : Calls Try.prog 22 #[.int .i64 t, .int .i64 u] w fun r w' => r = .returned (.tuple #[.pointer none, .int .i64 1]) ∧ w = w' := by
  have hout : t < 1 ∨ (¬ t < 1 ∧ 1000 < t) ∨ (¬ t < 1 ∧ ¬ 1000 < t ∧ u < 1) ∨ (¬ t < 1 ∧ ¬ 1000 < t ∧ ¬ u < 1 ∧ 1000 < u) := by unfold mayBe at h; omega
  clear h
  rcases hout with h | ⟨h1, h⟩ | ⟨h1, h2, h⟩ | ⟨h1, h2, h3, h⟩
  · have d0 : decide (t < 1) = true := decide_eq_true h
    clear h 
    go_enter Try.func22, Try.ntmps22
    go_wp2
    go_ret2
    exact ⟨rfl, rfl⟩
  · have d0 : decide (t < 1) = false := decide_eq_false h1
    have d1 : decide (1000 < t) = true := decide_eq_true h
    clear h h1
    go_enter Try.func22, Try.ntmps22
    go_wp2
    go_ret2
    exact ⟨rfl, rfl⟩
  · have d0 : decide (t < 1) = false := decide_eq_false h1
    have d1 : decide (1000 < t) = false := decide_eq_false h2
    have d2 : decide (u < 1) = true := decide_eq_true h
    clear h h1 h2
    go_enter Try.func22, Try.ntmps22
    go_wp2
    go_ret2
    exact ⟨rfl, rfl⟩
  · have d0 : decide (t < 1) = false := decide_eq_false h1
    have d1 : decide (1000 < t) = false := decide_eq_false h2
    have d2 : decide (u < 1) = false := decide_eq_false h3
    have d3 : decide (1000 < u) = true := decide_eq_true h
    clear h h1 h2 h3
    go_enter Try.func22, Try.ntmps22
    go_wp2
    go_ret2
    exact ⟨rfl, rfl⟩
set_option maxHeartbeats 1000000 in
theorem docdo_any (g : Nat) (e : Int) (m : Pure.Mach) (w : World) (hm : DMach w g m) (hg : m.Good) (ht : m.tries ≤ 1000) :
    Calls Try.prog 24 #[.pointer (some ⟨g, 0, none⟩), .int .i64 e] w fun r w' => ∃ u, r = .returned u ∧ w'.ownsRow w.heap.size 3 1 u (m.act2 e).1.length (ints (m.act2 e).1) ∧ DMach w' g (m.act2 e).2 ∧ Keeps (only g) w w' := by
  by_cases hd : Pure.does e
  · have hd' := hd
    unfold Pure.does at hd'
    obtain ⟨n, rfl⟩ : ∃ n : Nat, e = (n : Int) := ⟨e.toNat, by omega⟩
    have hA : m.act2 (n : Int) = m.step n := Pure.act2_step hd m
    have HS := Lib.hid (docmstep_any g n m w hm (by have := hg.state; omega) (by omega) hg.count ht)
    rw [hA]
    have d0 : decide ((n : Int) < 0) = false := decide_eq_false (by omega)
    have d1 : decide ((16 : Int) ≤ (n : Int)) = false := decide_eq_false (by omega)
    have d2 : ((n : Int) == 4) = false := by rw [beq_eq_false_iff_ne]; omega
    have d3 : ((n : Int) == 5) = false := by rw [beq_eq_false_iff_ne]; omega
    generalize m.step n = R at HS
    clear hd hd' hA hm hg ht
    go_enter Try.func24, Try.ntmps24
    go_wp2_with fail
    refine HS.out.mono ?_
    rintro r w2 ⟨u, rfl, hu, hm2, hk⟩
    have HU := Lib.hid hu
    have HM := Lib.hid hm2
    have HK := Lib.hid hk
    clear hu hm2 hk HS
    go_wp2
    go_ret
    exact ⟨u, rfl, HU.out, HM.out, HK.out⟩
  · have hA : m.act2 e = ([], m) := if_neg hd
    rw [hA]
    have HM := Lib.hid hm
    have hout : e < 0 ∨ (¬ e < 0 ∧ 16 ≤ e) ∨ (¬ e < 0 ∧ ¬ 16 ≤ e ∧ e = 4) ∨ (¬ e < 0 ∧ ¬ 16 ≤ e ∧ e ≠ 4 ∧ e = 5) := by unfold Pure.does at hd; omega
    clear hd hA hm hg ht
    rcases hout with h | ⟨h1, h⟩ | ⟨h1, h2, h⟩ | ⟨h1, h2, h3, h⟩
    · have d0 : decide (e < 0) = true := decide_eq_true h
      clear h
      go_enter Try.func24, Try.ntmps24
      go_wp2
      go_ret
      exact ⟨_, rfl, World.ownsRow_nil _ _ _ _, HM.out, Keeps.refl _ _⟩
    · have d0 : decide (e < 0) = false := decide_eq_false h1
      have d1 : decide (16 ≤ e) = true := decide_eq_true h
      clear h h1
      go_enter Try.func24, Try.ntmps24
      go_wp2
      go_ret
      exact ⟨_, rfl, World.ownsRow_nil _ _ _ _, HM.out, Keeps.refl _ _⟩
    · subst h
      clear h1 h2
      go_enter Try.func24, Try.ntmps24
      go_wp2
      go_ret
      exact ⟨_, rfl, World.ownsRow_nil _ _ _ _, HM.out, Keeps.refl _ _⟩
    · subst h
      clear h1 h2 h3
      go_enter Try.func24, Try.ntmps24
      go_wp2
      go_ret
      exact ⟨_, rfl, World.ownsRow_nil _ _ _ _, HM.out, Keeps.refl _ _⟩
set_option maxHeartbeats 1000000 in
theorem doctick_any (g : Nat) (m : Pure.Mach) (w : World) (hm : DMach w g m) (hg : m.Good) (ht : m.tries ≤ 1000) (hu : m.timeout ≤ 1000) :
    Calls Try.prog 23 #[.pointer (some ⟨g, 0, none⟩)] w fun r w' => ∃ u, r = .returned u ∧ w'.ownsRow w.heap.size 3 1 u m.tick.1.length (ints m.tick.1) ∧ DMach w' g m.tick.2 ∧ Keeps (only g) w w' := by
  have hg1 : w.cell? ⟨g, 1, none⟩ = some (.int .i64 (m.count : Nat)) := by rw [Blk.cell hm]; rfl
  have hg2 : w.cell? ⟨g, 2, none⟩ = some (.int .i64 (m.left : Nat)) := by rw [Blk.cell hm]; rfl
  have y2 := Blk.frozen hm 2
  have HM := Lib.hid hm
  have HG := Lib.hid hg
  have HT := Lib.hid ht
  clear hg ht
  by_cases h0 : m.left = 0
  · rw [Pure.tick_stops h0]
    rw [h0] at hg2
    have hg2 : w.cell? ⟨g, 2, none⟩ = some (.int .i64 0) := hg2
    clear h0 hm hg1 y2
    go_enter Try.func23, Try.ntmps23
    go_wp2
    go_ret
    exact ⟨_, rfl, World.ownsRow_nil _ _ _ _, HM.out, Keeps.refl _ _⟩
  · obtain ⟨L, hL⟩ : ∃ L, m.left = L + 1 := ⟨m.left - 1, by omega⟩
    have hll := HG.out.left
    have hm2 := Blk.set hm 2 (.int .i64 (L : Nat))
    have HS := Lib.hid ((Keeps.refl (only g) w).store g 2 (fun _ => rfl) (.int .i64 (L : Nat)))
    have HM2 := Lib.hid (show DMach (w.setCell ⟨g, 2, none⟩ (.int .i64 (L : Nat))) g { m with left := L } from hm2)
    have k1 : (w.setCell ⟨g, 2, none⟩ (.int .i64 (L : Nat))).cell? ⟨g, 1, none⟩ = some (.int .i64 (m.count : Nat)) := by rw [hm2.cell]; rfl
    have k2 : (w.setCell ⟨g, 2, none⟩ (.int .i64 (L : Nat))).cell? ⟨g, 2, none⟩ = some (.int .i64 (L : Nat)) := by rw [hm2.cell]; rfl
    rw [hL] at hg2
    have e1 : ((L + 1 : Nat) : Int) - 1 = (L : Int) := by omega
    have e2 : (((L + 1 : Nat) : Int) == 0) = false := by rw [beq_eq_false_iff_ne]; omega
    have lw : wrap64 (L : Int) = (L : Int) := IntWalk.wrap64_in _ (by omega)
    by_cases hL0 : 0 < L
    · have ht : m.tick = ([], { m with left := L }) := by
        unfold Pure.Mach.tick
        rw [if_neg (by omega), if_pos (by omega), hL]
        rfl
      rw [ht]
      have d0 : decide ((0 : Int) < (L : Int)) = true := decide_eq_true (by omega)
      have d1 : decide (0 < L) = true := decide_eq_true hL0
      clear ht hm hm2 hL h0 k1
      go_enter Try.func23, Try.ntmps23
      go_wp2
      go_ret
      exact ⟨_, rfl, World.ownsRow_nil _ _ _ _, HM2.out, HS.out⟩
    · have hz : L = 0 := by omega
      subst hz
      have hst := HG.out.state
      have hg2 : w.cell? ⟨g, 2, none⟩ = some (.int .i64 1) := hg2
      have k1 : (w.setCell ⟨g, 2, none⟩ (.int .i64 0)).cell? ⟨g, 1, none⟩ = some (.int .i64 (m.count : Nat)) := k1
      have k2 : (w.setCell ⟨g, 2, none⟩ (.int .i64 0)).cell? ⟨g, 2, none⟩ = some (.int .i64 0) := k2
      have HS0 := Lib.hid (show Keeps (only g) w (w.setCell ⟨g, 2, none⟩ (.int .i64 0)) from HS.out)
      clear HS
      by_cases hc : 0 < m.count
      · have ht : m.tick = Pure.Mach.step { m with left := 0 } 4 := by
          unfold Pure.Mach.tick
          rw [if_neg (by omega), if_neg (by omega), if_pos hc]
        rw [ht]
        have HST := docmstep_any g 4 { m with left := 0 } _ HM2.out (by show m.state < 10; omega) (by omega) HG.out.count HT.out
        generalize Pure.Mach.step { m with left := 0 } 4 = R at HST ⊢
        have HST := Lib.hid (show Calls Try.prog 37 #[.pointer (some ⟨g, 0, none⟩), .int .i64 4] (w.setCell ⟨g, 2, none⟩ (.int .i64 0)) fun r w' => ∃ u, r = .returned u ∧ w'.ownsRow (w.setCell ⟨g, 2, none⟩ (.int .i64 0)).heap.size 3 1 u R.1.length (ints R.1) ∧ DMach w' g R.2 ∧ Keeps (only g) (w.setCell ⟨g, 2, none⟩ (.int .i64 0)) w' from HST)
        have d0 : decide ((0 : Int) < (m.count : Int)) = true := decide_eq_true (by omega)
        have d1 : decide (0 < m.count) = true := decide_eq_true hc
        clear ht hm hm2 hL h0 hL0 hc e1 e2 lw hst hll
        go_enter Try.func23, Try.ntmps23
        go_wp2_with fail
        refine HST.out.mono ?_
        rintro r w2 ⟨u, rfl, hu, hm3, hk⟩
        have HU := Lib.hid (ownsRow_base (base' := w.heap.size) hu HS0.out.size)
        have HM3 := Lib.hid hm3
        have HK := Lib.hid (HS0.out.trans hk)
        clear hu hm3 hk HST k1 k2 hg1 hg2 y2
        go_wp2
        go_ret
        exact ⟨u, rfl, HU.out, HM3.out, HK.out⟩
      · have ht : m.tick = Pure.Mach.step { m with left := 0 } 5 := by
          unfold Pure.Mach.tick
          rw [if_neg (by omega), if_neg (by omega), if_neg hc]
        rw [ht]
        have HST := docmstep_any g 5 { m with left := 0 } _ HM2.out (by show m.state < 10; omega) (by omega) HG.out.count HT.out
        generalize Pure.Mach.step { m with left := 0 } 5 = R at HST ⊢
        have HST := Lib.hid (show Calls Try.prog 37 #[.pointer (some ⟨g, 0, none⟩), .int .i64 5] (w.setCell ⟨g, 2, none⟩ (.int .i64 0)) fun r w' => ∃ u, r = .returned u ∧ w'.ownsRow (w.setCell ⟨g, 2, none⟩ (.int .i64 0)).heap.size 3 1 u R.1.length (ints R.1) ∧ DMach w' g R.2 ∧ Keeps (only g) (w.setCell ⟨g, 2, none⟩ (.int .i64 0)) w' from HST)
        have d0 : decide ((0 : Int) < (m.count : Int)) = false := decide_eq_false (by omega)
        have d1 : decide (0 < m.count) = false := decide_eq_false hc
        clear ht hm hm2 hL h0 hL0 hc e1 e2 lw hst hll
        go_enter Try.func23, Try.ntmps23
        go_wp2_with fail
        refine HST.out.mono ?_
        rintro r w2 ⟨u, rfl, hu, hm3, hk⟩
        have HU := Lib.hid (ownsRow_base (base' := w.heap.size) hu HS0.out.size)
        have HM3 := Lib.hid hm3
        have HK := Lib.hid (HS0.out.trans hk)
        clear hu hm3 hk HST k1 k2 hg1 hg2 y2
        go_wp2
        go_ret
        exact ⟨u, rfl, HU.out, HM3.out, HK.out⟩
end Go.Proofs.Ytjeekhgkcphnpaa
