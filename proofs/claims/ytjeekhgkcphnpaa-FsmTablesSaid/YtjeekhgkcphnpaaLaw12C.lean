/- The law FsmSteps. -/
import Derived.Test.YtjeekhgkcphnpaaLaw12B
namespace Go.Proofs.Ytjeekhgkcphnpaa
open Go.RowKit
section
variable {Obj : World → (Nat → Prop) → Value → Pure.Mach → Prop}
set_option maxRecDepth 100000 in
set_option maxHeartbeats 4000000 in
theorem fsmSteps_walk' (H : FsmOk Obj) (a0 a1 : Int) (w : World) : Calls Try.prog 4 #[.int .i64 a0, .int .i64 a1] w fun e w' => e = .returned (.bool true) ∧ Below w.heap.size w w' := by
  have HA := Lib.hid (awake_any H w)
  go_enter Try.func4, Try.ntmps4
  go_wp2_with fail
  refine HA.out.mono ?_
  rintro e w1 ⟨rfl, hb1⟩
  have HB1 := Lib.hid hb1
  clear hb1 HA
  go_wp2_with fail
  go_loopw [5] (fun i wr => ∃ s : Int, -1 ≤ s ∧ s ≤ 11 ∧ i = .int .i64 s ∧ Below w.heap.size w wr) (fun i _ => (11 - intOf i).toNat)
  case atStart => exact ⟨-1, by omega, by omega, rfl, HB1.out⟩
  case round =>
    obtain ⟨s, s0, s1, rfl, hB⟩ := hrel
    have HB := Lib.hid hB
    clear hB
    by_cases hs : s ≤ 10
    · have d0 : decide (s ≤ 10) = true := decide_eq_true hs
      go_wp2_with fail
      go_loopw [6] (fun i wr => ∃ e : Int, -1 ≤ e ∧ e ≤ 17 ∧ i = .int .i64 e ∧ Below w.heap.size w wr) (fun i _ => (17 - intOf i).toNat)
      case atStart => exact ⟨-1, by omega, by omega, rfl, HB.out⟩
      case round =>
        obtain ⟨e, e0, e1, rfl, hB⟩ := hrel
        have HBi := Lib.hid hB
        clear hB
        by_cases he : e ≤ 16
        · have d1 : decide (e ≤ 16) = true := decide_eq_true he
          have HP := H.step s e
          have HD := docstep_any s e
          generalize Pure.fsmStep s e = R at HP HD
          obtain ⟨l, n⟩ := R
          have HP := Lib.hid HP
          have HD := Lib.hid HD
          go_wp2_with fail
          refine (HP.out _).mono ?_
          rintro r w2 ⟨A2, c2, rfl, hr2, hb2⟩
          have R2 := Lib.hid hr2
          have B2 := Lib.hid (Below.quiet HBi.out (Keeps.new hb2) HBi.out.size)
          clear hr2 hb2
          go_wp2_with fail
          refine (HD.out _).mono ?_
          rintro r w3 ⟨u3, rfl, hu3, hb3⟩
          obtain ⟨A3, c3, rfl⟩ := own_form hu3
          have hk3 := Keeps.new hb3
          have hi := ints_any _ _ _ _ l l w3 (R2.out.keeps hk3 (fun _ _ h => h)) (Row.of_own hu3)
          rw [decide_eq_true rfl] at hi
          have HI := Lib.hid hi
          have B3 := Lib.hid (Below.quiet B2.out hk3 B2.out.size)
          have dn : (n != n) = false := by simp
          clear hu3 hb3 hk3 hi R2 B2
          go_wp2_with fail
          refine HI.out.mono ?_
          rintro r w4 ⟨rfl, hk4⟩
          have B4 := Lib.hid (Below.quiet B3.out hk4 B3.out.size)
          clear hk4 HI B3
          have ew : wrap64 (e + 1) = e + 1 := IntWalk.wrap64_in _ (by omega)
          go_wp2_with fail
          go_roundw
          case rel => exact ⟨e + 1, by omega, by omega, rfl, B4.out⟩
          case measure => simp [intOf]; omega
        · have d1 : decide (e ≤ 16) = false := decide_eq_false he
          have sw : wrap64 (s + 1) = s + 1 := IntWalk.wrap64_in _ (by omega)
          go_wp2_with fail
          go_roundw
          case rel => exact ⟨s + 1, by omega, by omega, rfl, HBi.out⟩
          case measure => simp [intOf]; omega
    · have d0 : decide (s ≤ 10) = false := decide_eq_false hs
      have HP := H.step a0 a1
      have HD := docstep_any a0 a1
      generalize Pure.fsmStep a0 a1 = R at HP HD
      obtain ⟨l, n⟩ := R
      have HP := Lib.hid HP
      have HD := Lib.hid HD
      go_wp2_with fail
      refine (HP.out _).mono ?_
      rintro r w2 ⟨A2, c2, rfl, hr2, hb2⟩
      have R2 := Lib.hid hr2
      have B2 := Lib.hid (Below.quiet HB.out (Keeps.new hb2) HB.out.size)
      clear hr2 hb2
      go_wp2_with fail
      refine (HD.out _).mono ?_
      rintro r w3 ⟨u3, rfl, hu3, hb3⟩
      obtain ⟨A3, c3, rfl⟩ := own_form hu3
      have hk3 := Keeps.new hb3
      have hi := ints_any _ _ _ _ l l w3 (R2.out.keeps hk3 (fun _ _ h => h)) (Row.of_own hu3)
      rw [decide_eq_true rfl] at hi
      have HI := Lib.hid hi
      have B3 := Lib.hid (Below.quiet B2.out hk3 B2.out.size)
      have dn : (n == n) = true := by simp
      clear hu3 hb3 hk3 hi R2 B2
      go_wp2_with fail
      refine HI.out.mono ?_
      rintro r w4 ⟨rfl, hk4⟩
      have B4 := Lib.hid (Below.quiet B3.out hk4 B3.out.size)
      clear hk4 HI B3
      go_wp2
      go_ret
      exact ⟨rfl, B4.out⟩
end
end Go.Proofs.Ytjeekhgkcphnpaa
