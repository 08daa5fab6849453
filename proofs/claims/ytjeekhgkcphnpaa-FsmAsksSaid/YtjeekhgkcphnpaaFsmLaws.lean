/- What follows for the automaton and its machine. Nothing of the program. -/
import Derived.Test.YtjeekhgkcphnpaaFsmPure
namespace Go.Proofs.Ytjeekhgkcphnpaa
namespace Pure
/-- So many ticks are left, at most. -/
def Mach.pot (m : Mach) : Nat := m.count * m.timeout + m.left
/-- How many of a list are so. -/
def many (f : Nat → Bool) (l : List Nat) : Nat := (l.filter f).length
def asks (l : List Nat) : Nat := many (fun a => a == 6 || a == 9) l
theorem fsm_time : ∀ s < 10, (s < 4 ∨ s = 9 ∨ (((fsmAt s 4).1 = [6] ∨ (fsmAt s 4).1 = [9]) ∧ 4 ≤ (fsmAt s 4).2 ∧ (fsmAt s 4).2 ≤ 8 ∧ (fsmAt s 5).1 = [3] ∧ (fsmAt s 5).2 < 4)) := by decide +kernel
/-- What a tick of a running timer comes to. -/
theorem tick_ways {m : Mach} (h : m.Good) (hl : 0 < m.left) :
    (1 < m.left ∧ m.tick = ([], { m with left := m.left - 1 })) ∨
    (m.left = 1 ∧ 0 < m.count ∧ ∃ a n, (a = 6 ∨ a = 9) ∧ 4 ≤ n ∧ n ≤ 8 ∧ fsmAt m.state 4 = ([a], n) ∧ m.tick = ([a], ⟨n, m.count - 1, m.timeout, m.tries, m.timeout⟩)) ∨
    (m.left = 1 ∧ m.count = 0 ∧ ∃ n, n < 4 ∧ fsmAt m.state 5 = ([3], n) ∧ m.tick = ([3], ⟨n, 0, 0, m.tries, m.timeout⟩)) := by
  have hs : 4 ≤ m.state ∧ m.state ≤ 8 := by
    have h1 := h.rest
    have h2 := h.state
    by_cases h3 : m.state < 4 ∨ m.state = 9
    · have := h1 h3; omega
    · omega
  rcases fsm_time m.state (by omega) with h1 | h1 | ⟨h1, h2, h3, h4, h5⟩
  · omega
  · omega
  · by_cases h6 : 1 < m.left
    · refine .inl ⟨h6, ?_⟩
      unfold Mach.tick
      rw [if_neg (by omega), if_pos h6]
    · have h7 : m.left = 1 := by omega
      refine .inr ?_
      obtain ⟨s, c, lf, t, u⟩ := m
      dsimp only at *
      subst h7
      by_cases h8 : 0 < c
      · refine .inl ⟨rfl, h8, ?_⟩
        obtain ⟨n, hn⟩ : ∃ n, n = (fsmAt s 4).2 := ⟨_, rfl⟩
        rw [← hn] at h2 h3
        have hb : ∀ a, (a = 6 ∨ a = 9) → (fsmAt s 4).1 = [a] → Mach.tick ⟨s, c, 1, t, u⟩ = ([a], ⟨n, c - 1, u, t, u⟩) := by
          intro a ha he
          unfold Mach.tick
          rw [if_neg (by simp), if_neg (by simp), if_pos h8]
          unfold Mach.step
          dsimp only
          rw [he, ← hn]
          have hact : List.foldl Mach.act ⟨n, c, 0, t, u⟩ [a] = ⟨n, c - 1, u, t, u⟩ := by
            rcases ha with rfl | rfl <;> rfl
          rw [hact]
          unfold Mach.rest
          rw [if_neg (by dsimp only; omega)]
        rcases h1 with h1 | h1
        · exact ⟨6, n, .inl rfl, h2, h3, by rw [← h1, hn], hb 6 (.inl rfl) h1⟩
        · exact ⟨9, n, .inr rfl, h2, h3, by rw [← h1, hn], hb 9 (.inr rfl) h1⟩
      · have hc0 : c = 0 := by omega
        subst hc0
        refine .inr ⟨rfl, rfl, (fsmAt s 5).2, h5, by rw [← h4], ?_⟩
        unfold Mach.tick
        rw [if_neg (by simp), if_neg (by simp), if_neg (by simp)]
        unfold Mach.step
        dsimp only
        rw [h4]
        have hact : List.foldl Mach.act ⟨(fsmAt s 5).2, 0, 0, t, u⟩ [3] = ⟨(fsmAt s 5).2, 0, 0, t, u⟩ := rfl
        rw [hact]
        unfold Mach.rest
        rw [if_pos (.inl h5)]
theorem tick_stops {m : Mach} (hl : m.left = 0) : m.tick = ([], m) := by unfold Mach.tick; rw [if_pos hl]
theorem tick_pot {m : Mach} (h : m.Good) (hl : 0 < m.left) : m.tick.2.pot + 1 ≤ m.pot := by
  rcases tick_ways h hl with ⟨h1, h2⟩ | ⟨h1, h2, a, n, _, _, _, _, h3⟩ | ⟨h1, h2, n, _, _, h3⟩
  · rw [h2]; unfold Mach.pot; dsimp only; omega
  · rw [h3]; unfold Mach.pot; dsimp only
    obtain ⟨c, hc⟩ : ∃ c, m.count = c + 1 := ⟨m.count - 1, by omega⟩
    rw [hc, h1, Nat.add_sub_cancel, Nat.succ_mul]
    exact Nat.le_refl _
  · rw [h3]; unfold Mach.pot; dsimp only; rw [h1, h2]; simp
theorem pot_le {m : Mach} (h : m.Good) : m.pot ≤ (m.tries + 1) * m.timeout := by
  unfold Mach.pot
  have h1 := Nat.mul_le_mul_right m.timeout h.count
  have h2 := h.left
  rw [Nat.succ_mul]
  omega
theorem stopped {m : Mach} (h : m.Good) (hl : m.left = 0) : m.state ≤ 3 ∨ m.state = 9 := by
  have h1 := h.runs
  have h2 := h.state
  by_cases h3 : 4 ≤ m.state ∧ m.state ≤ 8
  · have := h1 h3.1 h3.2; omega
  · omega
theorem pot_zero {m : Mach} (h : m.pot = 0) : m.left = 0 := by unfold Mach.pot at h; omega
/-- A tick asks once at most, and pays for it. -/
theorem tick_asks {m : Mach} (h : m.Good) (hl : 0 < m.left) : asks m.tick.1 + m.tick.2.count ≤ m.count := by
  rcases tick_ways h hl with ⟨h1, h2⟩ | ⟨h1, h2, a, n, ha, _, _, _, h3⟩ | ⟨h1, h2, n, _, _, h3⟩
  · rw [h2]; simp [asks, many]
  · rw [h3]
    have : asks [a] = 1 := by rcases ha with rfl | rfl <;> rfl
    rw [this]; dsimp only; omega
  · rw [h3]
    have : asks [3] = 0 := rfl
    rw [this]; simp
/-- Of every state and event. -/
def entryOk (s e : Nat) : Bool := decide ((fsmAt s e).2 ≤ 9) && (fsmAt s e).1.all fun a => decide (a ≤ 12) && !(a == 1 && s != 9) && !(a == 0 && (s == 9 || (fsmAt s e).2 != 9)) && !(a == 12 && s != 9) && !(a == 6 && decide ((fsmAt s e).2 < 6)) && !(a == 9 && (fsmAt s e).2 != 4 && (fsmAt s e).2 != 5)
theorem entries_ok : ∀ s < 10, ∀ e < 16, entryOk s e = true := by decide +kernel
/-- A layer goes up, and down, just when it should. -/
theorem layers_at : ∀ s < 10, ∀ e < 16, many (· == 0) (fsmAt s e).1 = (if (fsmAt s e).2 = 9 ∧ s ≠ 9 then 1 else 0) ∧ many (· == 1) (fsmAt s e).1 = (if s = 9 ∧ (fsmAt s e).2 ≠ 9 then 1 else 0) := by decide +kernel
theorem layers_call {m : Mach} (h : m.Good) (x : Int) : many (· == 0) (m.call x).1 = (if (m.call x).2.state = 9 ∧ m.state ≠ 9 then 1 else 0) ∧ many (· == 1) (m.call x).1 = (if m.state = 9 ∧ (m.call x).2.state ≠ 9 then 1 else 0) := by
  have hs := h.state
  have hstep : ∀ (m' : Mach) (e : Nat), e < 16 → m'.state = m.state → (m'.step e).2.state = (fsmAt m.state e).2 ∧ (m'.step e).1 = (fsmAt m.state e).1 := by
    intro m' e he hm
    refine ⟨?_, by unfold Mach.step; rw [hm]⟩
    show (Mach.rest _).state = _
    rw [(rest_eq _).1, (act_keeps _ _).1, hm]
  have hno : many (· == 0) ([] : List Nat) = (if m.state = 9 ∧ m.state ≠ 9 then 1 else 0) ∧ many (· == 1) ([] : List Nat) = (if m.state = 9 ∧ m.state ≠ 9 then 1 else 0) := by
    rw [if_neg (fun h => h.2 h.1)]; exact ⟨rfl, rfl⟩
  unfold Mach.call
  split
  · unfold Mach.tick
    split
    · exact hno
    · split
      · exact hno
      · split
        · obtain ⟨h1, h2⟩ := hstep { m with left := 0 } 4 (by omega) rfl
          rw [h1, h2]; exact layers_at m.state (by omega) 4 (by omega)
        · obtain ⟨h1, h2⟩ := hstep { m with left := 0 } 5 (by omega) rfl
          rw [h1, h2]; exact layers_at m.state (by omega) 5 (by omega)
  · unfold Mach.act2
    split
    · rename_i hd
      unfold does at hd
      obtain ⟨h1, h2⟩ := hstep m x.toNat (by omega) rfl
      rw [h1, h2]; exact layers_at m.state (by omega) x.toNat (by omega)
    · exact hno
theorem close_at : ∀ s < 10, ((fsmAt s 3).2 = 0 ∨ (fsmAt s 3).2 = 2 ∨ (fsmAt s 3).2 = 4) ∧ (fsmAt (fsmAt s 3).2 1).2 = 0 ∧ ((fsmAt s 1).2 = 0 ∨ (fsmAt s 1).2 = 1) := by decide +kernel
theorem step_state (m : Mach) (e : Nat) : (m.step e).2.state = (fsmAt m.state e).2 := by
  show (Mach.rest _).state = _
  rw [(rest_eq _).1, (act_keeps _ _).1]
theorem act2_step {e : Nat} (he : does e) (m : Mach) : m.act2 e = m.step e := by
  unfold Mach.act2
  rw [if_pos he]
  rfl
/-- Ticks of a machine that closes. -/
theorem closing_tick {m : Mach} (h : m.Good) (hs : m.state = 0 ∨ m.state = 2 ∨ m.state = 4) : (m.tick.2.state = 0 ∨ m.tick.2.state = 2 ∨ m.tick.2.state = 4) := by
  by_cases hl : m.left = 0
  · rw [tick_stops hl]; exact hs
  · have h4 : m.state = 4 := by
      rcases hs with h1 | h1 | h1
      · have := h.rest (by omega); omega
      · have := h.rest (by omega); omega
      · exact h1
    rcases tick_ways h (by omega) with ⟨h1, h2⟩ | ⟨h1, h2, a, n, _, _, _, hf, h3⟩ | ⟨h1, h2, n, _, hf, h3⟩
    · rw [h2]; exact hs
    · rw [h3]; rw [h4] at hf
      have : n = 4 := by have := congrArg Prod.snd hf; exact this.symm
      exact .inr (.inr this)
    · rw [h3]; rw [h4] at hf
      have : n = 2 := by have := congrArg Prod.snd hf; exact this.symm
      exact .inr (.inl this)
/-- So many ticks. -/
def Mach.ticks : Nat → Mach → Mach
  | 0, m => m
  | n + 1, m => Mach.ticks n m.tick.2
end Pure
end Go.Proofs.Ytjeekhgkcphnpaa
