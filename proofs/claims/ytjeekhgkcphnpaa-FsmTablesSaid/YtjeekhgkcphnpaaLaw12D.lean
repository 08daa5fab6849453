/- The law FsmTables. -/
import Derived.Test.YtjeekhgkcphnpaaLaw12C
namespace Go.Proofs.Ytjeekhgkcphnpaa
open Go.RowKit
theorem Pure.entry_all : ∀ s < 10, ∀ e < 16, ((Pure.fsmAt s e).1.all fun a => decide (a ≤ 12 ∧ (a ≠ 1 ∨ s = 9) ∧ (a ≠ 0 ∨ (s ≠ 9 ∧ (Pure.fsmAt s e).2 = 9)) ∧ (a ≠ 12 ∨ s = 9) ∧ (a ≠ 6 ∨ 6 ≤ (Pure.fsmAt s e).2) ∧ (a ≠ 9 ∨ (Pure.fsmAt s e).2 = 4 ∨ (Pure.fsmAt s e).2 = 5))) = true := by decide +kernel
theorem Pure.entry_at (s : Nat) (hs : s < 10) (e : Nat) (he : e < 16) : ∀ a ∈ (Pure.fsmAt s e).1, a ≤ 12 ∧ (a ≠ 1 ∨ s = 9) ∧ (a ≠ 0 ∨ (s ≠ 9 ∧ (Pure.fsmAt s e).2 = 9)) ∧ (a ≠ 12 ∨ s = 9) ∧ (a ≠ 6 ∨ 6 ≤ (Pure.fsmAt s e).2) ∧ (a ≠ 9 ∨ (Pure.fsmAt s e).2 = 4 ∨ (Pure.fsmAt s e).2 = 5) :=
  fun a ha => of_decide_eq_true (List.all_eq_true.1 (Pure.entry_all s hs e he) a ha)
section
variable {Obj : World → (Nat → Prop) → Value → Pure.Mach → Prop}
set_option maxRecDepth 100000 in
set_option maxHeartbeats 4000000 in
theorem fsmTables_walk' (H : FsmOk Obj) (a0 a1 : Nat) (w : World) (h0 : a0 < 256) (h1 : a1 < 256) : Calls Try.prog 11 #[.int .u8 a0, .int .u8 a1] w fun e w' => e = .returned (.bool true) ∧ Below w.heap.size w w' := by
  have HA := Lib.hid (awake_any H w)
  obtain ⟨s, hs⟩ : ∃ s, s = a0 % 10 := ⟨_, rfl⟩
  obtain ⟨e, he⟩ : ∃ e, e = a1 % 16 := ⟨_, rfl⟩
  have es : (a0 : Int).tmod 10 = (s : Int) := by rw [Int.tmod_eq_emod_of_nonneg (by omega), hs]; rfl
  have ee : (a1 : Int).tmod 16 = (e : Int) := by rw [Int.tmod_eq_emod_of_nonneg (by omega), he]; rfl
  have hs10 : s < 10 := by omega
  have he16 : e < 16 := by omega
  have HP := H.step s e
  rw [fsmStep_in s e hs10 he16] at HP
  dsimp only at HP
  have hle := (Pure.fsmAt_le s hs10 e he16).1
  have hent := Pure.entry_at s hs10 e he16
  generalize Pure.fsmAt s e = R at HP hle hent
  obtain ⟨l, n⟩ := R
  dsimp only at HP hle hent
  have HP := Lib.hid HP
  have HENT := Lib.hid hent
  clear hs he hent
  go_enter Try.func11, Try.ntmps11
  go_wp2_with fail
  refine HA.out.mono ?_
  rintro r w1 ⟨rfl, hb1⟩
  have B1 := Lib.hid hb1
  clear hb1 HA
  go_wp2_with fail
  refine (HP.out _).mono ?_
  rintro r w2 ⟨A2, c2, rfl, hr2, hb2⟩
  have hml := hr2.2.1
  unfold maxLen at hml
  have R2 := Lib.hid hr2
  have B2 := Lib.hid (Below.quiet B1.out (Keeps.new hb2) B1.out.size)
  have n0 : decide ((n : Int) < 0) = false := decide_eq_false (by omega)
  have n9 : decide ((9 : Int) < (n : Int)) = false := decide_eq_false (by omega)
  clear hr2 hb2 B1
  go_wp2_with fail
  go_loopw [9] (fun i wr => ∃ k : Nat, k ≤ l.length ∧ i = .int .i64 (k : Int) ∧ wr = w2) (fun i _ => l.length - (intOf i).toNat)
  case atStart => exact ⟨0, by omega, rfl, rfl⟩
  case round =>
    obtain ⟨k, hk, rfl, rfl⟩ := hrel
    by_cases hkl : k < l.length
    · have d0 : decide ((k : Int) < (l.length : Int)) = true := decide_eq_true (by omega)
      have d1 : decide (k < l.length) = true := decide_eq_true hkl
      have k0 : (0 : Int) ≤ (k : Int) := by omega
      have k1 : (k : Int) < (l.length : Int) := by omega
      obtain ⟨b, off, rfl, _, hcell⟩ := R2.out.ints_at k hkl
      have hm : l.getD k 0 ∈ l := by rw [List.getD_eq_getElem?_getD, List.getElem?_eq_getElem hkl]; exact List.getElem_mem hkl
      obtain ⟨f0, f1, f2, f3, f4, f5⟩ := HENT.out _ hm
      obtain ⟨a, ha⟩ : ∃ a, a = l.getD k 0 := ⟨_, rfl⟩
      rw [← ha] at hcell f0 f1 f2 f3 f4 f5
      clear hm ha es ee
      by_cases q0 : a = 0
      · subst q0
        have hcell : wr.cell? ⟨b, off + k, none⟩ = some (.int .i64 0) := hcell
        have z0 : ((s : Int) == 9) = false := by rw [beq_eq_false_iff_ne]; omega
        have z1 : ((n : Int) != 9) = false := by rw [bne_eq_false_iff_eq]; omega
        clear f0 f1 f2 f3 f4 f5
        go_wp2_with fail
        go_roundw
        case rel => exact ⟨k + 1, by omega, by go_num, trivial⟩
        case measure => simp [intOf]; omega
      by_cases q1 : a = 1
      · subst q1
        have hcell : wr.cell? ⟨b, off + k, none⟩ = some (.int .i64 1) := hcell
        have z0 : ((s : Int) != 9) = false := by rw [bne_eq_false_iff_eq]; omega
        clear f0 f1 f2 f3 f4 f5
        go_wp2_with fail
        go_roundw
        case rel => exact ⟨k + 1, by omega, by go_num, trivial⟩
        case measure => simp [intOf]; omega
      by_cases a12 : a = 12
      · subst a12
        have hcell : wr.cell? ⟨b, off + k, none⟩ = some (.int .i64 12) := hcell
        have z0 : ((s : Int) != 9) = false := by rw [bne_eq_false_iff_eq]; omega
        clear f0 f1 f2 f3 f4 f5
        go_wp2_with fail
        go_roundw
        case rel => exact ⟨k + 1, by omega, by go_num, trivial⟩
        case measure => simp [intOf]; omega
      by_cases a6 : a = 6
      · subst a6
        have hcell : wr.cell? ⟨b, off + k, none⟩ = some (.int .i64 6) := hcell
        have z0 : decide ((n : Int) < 6) = false := decide_eq_false (by omega)
        clear f0 f1 f2 f3 f4 f5
        go_wp2_with fail
        go_roundw
        case rel => exact ⟨k + 1, by omega, by go_num, trivial⟩
        case measure => simp [intOf]; omega
      by_cases a9 : a = 9
      · subst a9
        have hcell : wr.cell? ⟨b, off + k, none⟩ = some (.int .i64 9) := hcell
        have z0 : ((n : Int) != 4) = !((n : Int) == 4) := rfl
        rcases f5.resolve_left (by omega) with f5 | f5
        · have z1 : ((n : Int) != 4) = false := by rw [bne_eq_false_iff_eq]; omega
          clear f0 f1 f2 f3 f4 f5 z0
          go_wp2_with fail
          go_roundw
          case rel => exact ⟨k + 1, by omega, by go_num, trivial⟩
          case measure => simp [intOf]; omega
        · have z1 : ((n : Int) != 4) = true := by rw [bne_iff_ne]; omega
          have z2 : ((n : Int) != 5) = false := by rw [bne_eq_false_iff_eq]; omega
          clear f0 f1 f2 f3 f4 f5 z0
          go_wp2_with fail
          go_roundw
          case rel => exact ⟨k + 1, by omega, by go_num, trivial⟩
          case measure => simp [intOf]; omega
      · have y0 : ((a : Int) == 0) = false := by rw [beq_eq_false_iff_ne]; omega
        have y1 : ((a : Int) == 1) = false := by rw [beq_eq_false_iff_ne]; omega
        have y2 : ((a : Int) == 12) = false := by rw [beq_eq_false_iff_ne]; omega
        have y3 : ((a : Int) == 6) = false := by rw [beq_eq_false_iff_ne]; omega
        have y4 : ((a : Int) == 9) = false := by rw [beq_eq_false_iff_ne]; omega
        have y5 : decide ((a : Int) < 0) = false := decide_eq_false (by omega)
        have y6 : decide ((12 : Int) < (a : Int)) = false := decide_eq_false (by omega)
        clear f0 f1 f2 f3 f4 f5
        go_wp2_with fail
        go_roundw
        case rel => exact ⟨k + 1, by omega, by go_num, trivial⟩
        case measure => simp [intOf]; omega
    · have hkk : k = l.length := by omega
      subst hkk
      have d0 : decide ((l.length : Int) < (l.length : Int)) = false := decide_eq_false (by omega)
      have d1 : decide (l.length < l.length) = false := decide_eq_false (by omega)
      go_wp2
      go_ret
      exact ⟨rfl, B2.out⟩
end
end Go.Proofs.Ytjeekhgkcphnpaa
