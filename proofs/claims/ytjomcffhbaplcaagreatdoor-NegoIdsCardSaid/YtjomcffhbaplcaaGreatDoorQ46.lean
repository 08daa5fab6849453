/- How fast a negotiator's counts grow. Nothing of the program. -/
import Derived.Test.YtjomcffhbaplcaaGreatDoorQ41
namespace Go.Proofs.YtjomcffhbaplcaaGreatDoor
namespace Pure
theorem actP_bounds (r : Option Reply) (s : Neg × Said) (a : Nat) : (negActP r s a).1.naks ≤ s.1.naks + 1 ∧ (negActP r s a).2.send.length ≤ s.2.send.length + 1 ∧ (negActP r s a).1.rules = s.1.rules ∧ (negActP r s a).1.dropped = s.1.dropped := by
  unfold negActP
  split
  · exact ⟨by simp, by simp, rfl, rfl⟩
  · exact ⟨by simp, by simp, rfl, rfl⟩
  · exact ⟨by simp [Neg.again], by simp, rfl, rfl⟩
  · exact ⟨by simp, by simp, rfl, rfl⟩
  · exact ⟨by simp [sendReq], by simp [sendReq, Said.more], rfl, rfl⟩
  · cases r with
    | none => exact ⟨by simp [sendAnswerP], by simp [sendAnswerP], rfl, rfl⟩
    | some q => exact ⟨by simp only [sendAnswerP]; split <;> omega, by simp [sendAnswerP, Said.more], rfl, rfl⟩
  · cases r with
    | none => exact ⟨by simp [sendAnswerP], by simp [sendAnswerP], rfl, rfl⟩
    | some q => exact ⟨by simp only [sendAnswerP]; split <;> omega, by simp [sendAnswerP, Said.more], rfl, rfl⟩
  · exact ⟨by simp [sendOwn], by simp [sendOwn, Said.more], rfl, rfl⟩
  · cases r with
    | none => exact ⟨by simp [sendTermAck, sendOwn], by simp [sendTermAck, sendOwn, Said.more], rfl, rfl⟩
    | some q =>
      simp only [sendTermAck]
      split
      · exact ⟨by simp, by simp [Said.more], rfl, rfl⟩
      · exact ⟨by simp [sendOwn], by simp [sendOwn, Said.more], rfl, rfl⟩
  · cases r with
    | none => exact ⟨by simp [sendCodeRej], by simp [sendCodeRej], rfl, rfl⟩
    | some q => exact ⟨by simp [sendCodeRej, sendOwn], by simp [sendCodeRej, sendOwn, Said.more], rfl, rfl⟩
  · exact ⟨by simp, by simp, rfl, rfl⟩
theorem actsP_bounds (r : Option Reply) (l : List Nat) : ∀ s : Neg × Said, (l.foldl (negActP r) s).1.naks ≤ s.1.naks + l.length ∧ (l.foldl (negActP r) s).2.send.length ≤ s.2.send.length + l.length ∧ (l.foldl (negActP r) s).1.rules = s.1.rules ∧ (l.foldl (negActP r) s).1.dropped = s.1.dropped := by
  induction l with
  | nil => intro s; exact ⟨by simp, by simp, rfl, rfl⟩
  | cons a l ih =>
    intro s
    rw [List.foldl_cons, List.length_cons]
    obtain ⟨a1, a2, a3, a4⟩ := actP_bounds r s a
    obtain ⟨b1, b2, b3, b4⟩ := ih (negActP r s a)
    exact ⟨by omega, by omega, b3.trans a3, b4.trans a4⟩
theorem act2_ten {m : Mach} (h : m.Good) (e : Int) : (m.act2 e).1.length ≤ 10 := by
  rw [act2_fst]
  split
  · rename_i hd
    unfold does at hd
    exact fsm_few m.state (by have := h.state; omega) e.toNat (by omega)
  · simp
/-- After so many steps the counts are small. -/
structure Tame (k : Nat) (n : Neg) : Prop where
  naks : n.naks ≤ 20 + 10 * k
  dropped : n.dropped ≤ k
  rules : n.rules.length ≤ 1000
theorem Tame.more {k : Nat} {n : Neg} (h : Tame k n) : Tame (k + 1) n := ⟨by have := h.naks; omega, by have := h.dropped; omega, h.rules⟩
theorem heeds_dropped (n : Neg) (p : Pkt) : (n.heeds p).2.1.dropped = n.dropped := by
  unfold Neg.heeds Neg.heedsBy
  split
  · rfl
  split
  · rfl
  split
  · rfl
  split
  · rfl
  split
  · rfl
  split
  · rfl
  split <;> rfl
theorem Tame.input {k : Nat} {n : Neg} (h : Tame k n) (hw : n.Well) (p : Pkt) : Tame (k + 1) (n.input p).1 ∧ (n.input p).2.send.length ≤ 10 := by
  have h1 := h.naks
  have h2 := h.dropped
  by_cases hr : n.refuses p
  · rw [input_refused hw hr]
    exact ⟨⟨by show n.naks ≤ _; omega, by show n.dropped + 1 ≤ _; omega, h.rules⟩, by simp [Neg.drop, mute]⟩
  · rw [input_heeded hw hr]
    have e0 := heeds_same n p (judge n.rules (split p.data).2 (decide (n.m.tries ≤ n.naks)))
    obtain ⟨e1, e2, e3, _⟩ : (n.heeds p).2.1.m = n.m ∧ (n.heeds p).2.1.naks = n.naks ∧ (n.heeds p).2.1.rules = n.rules ∧ (n.heeds p).2.2.p = p := e0
    have e4 := heeds_dropped n p
    generalize n.heeds p = E at e1 e2 e3 e4
    obtain ⟨ev, n1, q⟩ := E
    dsimp only at e1 e2 e3 e4 ⊢
    have ht : (n1.m.act2 (ev : Int)).1.length ≤ 10 := by rw [e1]; exact act2_ten hw.good _
    obtain ⟨b1, b2, b3, b4⟩ := actsP_bounds (some q) (n1.m.act2 (ev : Int)).1 ({ n1 with m := (n1.m.act2 (ev : Int)).2 }, mute)
    unfold Neg.eventP Neg.actsP
    dsimp only [mute, List.length_nil] at b1 b2 b3 b4
    exact ⟨⟨by dsimp only [mute]; omega, by dsimp only [mute]; rw [b4, e4]; omega, by dsimp only [mute]; rw [b3, e3]; exact h.rules⟩, by dsimp only [mute]; omega⟩
theorem act_bounds (n : Neg) (hg : n.m.Good) (e : Int) (he : e = 0 ∨ e = 2 ∨ e = 3) : (n.act e).1.naks ≤ n.naks + 10 ∧ (n.act e).2.send.length ≤ 10 ∧ (n.act e).1.rules = n.rules ∧ (n.act e).1.dropped = n.dropped := by
  have ht := act2_ten hg e
  have hgen : ∀ n' : Neg, n'.m = n.m → n'.rules = n.rules → n'.dropped = n.dropped → n'.naks ≤ n.naks → (({ n' with m := (n'.m.act2 e).2 } : Neg).acts (n'.m.act2 e).1 none).1.naks ≤ n.naks + 10 ∧ (({ n' with m := (n'.m.act2 e).2 } : Neg).acts (n'.m.act2 e).1 none).2.send.length ≤ 10 ∧ (({ n' with m := (n'.m.act2 e).2 } : Neg).acts (n'.m.act2 e).1 none).1.rules = n.rules ∧ (({ n' with m := (n'.m.act2 e).2 } : Neg).acts (n'.m.act2 e).1 none).1.dropped = n.dropped := by
    intro n' h1 h2 h3 h4
    rw [h1]
    rw [← actsP_none]
    obtain ⟨b1, b2, b3, b4⟩ := actsP_bounds none (n.m.act2 e).1 ({ n' with m := (n.m.act2 e).2 }, mute)
    dsimp only [mute, List.length_nil] at b1 b2 b3 b4
    unfold Neg.actsP
    exact ⟨by dsimp only [mute]; omega, by dsimp only [mute]; omega, b3.trans h2, b4.trans h3⟩
  rcases he with rfl | rfl | rfl
  · exact hgen n.again rfl rfl rfl (Nat.zero_le _)
  · exact hgen n rfl rfl rfl (Nat.le_refl _)
  · exact hgen n rfl rfl rfl (Nat.le_refl _)
/-- One round of a talk: who has something to hear hears it. -/
theorem talkGo_mine (f k : Nat) (p : Pkt) (t q1 : List Pkt) (x y : Neg) (h : q1 = [] ∨ k % 2 = 0) : talkGo (f + 1) k (p :: t) q1 x y = talkGo f (k + 1) t (q1 ++ (x.input p).2.send) (x.input p).1 y := by
  cases q1 with
  | nil => rfl
  | cons q s =>
    rcases h with h | h
    · cases h
    · rw [talkGo, if_pos h]
theorem talkGo_other (f k : Nat) (q : Pkt) (s q0 : List Pkt) (x y : Neg) (h : q0 = [] ∨ k % 2 ≠ 0) : talkGo (f + 1) k q0 (q :: s) x y = talkGo f (k + 1) (q0 ++ (y.input q).2.send) s x (y.input q).1 := by
  cases q0 with
  | nil => rfl
  | cons p t =>
    rcases h with h | h
    · cases h
    · rw [talkGo, if_neg h]
theorem talkGo_none (f k : Nat) (x y : Neg) : talkGo f k [] [] x y = (x, y) := by cases f <;> rfl
theorem talkGo_zero (k : Nat) (q0 q1 : List Pkt) (x y : Neg) : talkGo 0 k q0 q1 x y = (x, y) := rfl
end Pure
end Go.Proofs.YtjomcffhbaplcaaGreatDoor
