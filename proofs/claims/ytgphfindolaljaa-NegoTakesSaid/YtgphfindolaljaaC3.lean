/- What chapter 12 says of the automaton and its machine. Nothing of the program. -/
import Derived.Laws.BytesString
import Derived.Lib.BufferRead
import Derived.Test.YtgphfindolaljaaC2
namespace Go.Proofs.Ytgphfindolaljaa
set_option maxRecDepth 100000
set_option maxHeartbeats 4000000
open _root_.Go.Lib renaming hid → xhd
namespace Pure
def fsmRows : List (List (List Nat × Nat)) := [
 [([], 2), ([4, 6], 6), ([], 2), ([], 3), ([], 4), ([], 5), ([], 6), ([], 7), ([], 8), ([], 9)],
 [([], 0), ([], 1), ([], 0), ([2], 1), ([], 0), ([], 1), ([], 1), ([], 1), ([], 1), ([1], 1)],
 [([2], 1), ([], 1), ([4, 6], 6), ([], 3), ([], 5), ([], 5), ([], 6), ([], 7), ([], 8), ([], 9)],
 [([], 0), ([3], 0), ([], 2), ([], 2), ([], 4), ([], 4), ([4, 9], 4), ([4, 9], 4), ([4, 9], 4), ([1, 4, 9], 4)],
 [([], 0), ([], 1), ([], 2), ([], 3), ([9], 4), ([9], 5), ([6], 6), ([6], 6), ([6], 8), ([], 9)],
 [([], 0), ([], 1), ([], 2), ([], 3), ([3], 2), ([3], 3), ([3], 3), ([3], 3), ([3], 3), ([], 9)],
 [([], 0), ([], 1), ([10], 2), ([4, 6, 7], 8), ([], 4), ([], 5), ([7], 8), ([7, 0], 9), ([7], 8), ([1, 6, 7], 8)],
 [([], 0), ([], 1), ([10], 2), ([4, 6, 8], 6), ([], 4), ([], 5), ([8], 6), ([8], 7), ([8], 6), ([1, 6, 8], 6)],
 [([], 0), ([], 1), ([10], 2), ([10], 3), ([], 4), ([], 5), ([4], 7), ([6], 6), ([4, 0], 9), ([1, 6], 6)],
 [([], 0), ([], 1), ([10], 2), ([10], 3), ([], 4), ([], 5), ([4, 6], 6), ([6], 6), ([4, 6], 8), ([1, 6], 6)],
 [([], 0), ([], 1), ([10], 2), ([10], 3), ([10], 4), ([10], 5), ([10], 6), ([10], 6), ([10], 6), ([1, 5, 10], 5)],
 [([], 0), ([], 1), ([], 2), ([], 3), ([3], 2), ([3], 3), ([], 6), ([], 6), ([], 8), ([1, 6], 6)],
 [([], 0), ([], 1), ([11], 2), ([11], 3), ([11], 4), ([11], 5), ([11], 6), ([11], 7), ([11], 8), ([11], 9)],
 [([], 0), ([], 1), ([], 2), ([], 3), ([], 4), ([], 5), ([], 6), ([], 6), ([], 8), ([], 9)],
 [([], 0), ([], 1), ([3], 2), ([3], 3), ([3], 2), ([3], 3), ([3], 3), ([3], 3), ([3], 3), ([1, 4, 9], 5)],
 [([], 0), ([], 1), ([], 2), ([], 3), ([], 4), ([], 5), ([], 6), ([], 7), ([], 8), ([12], 9)]]
def fsmAt (s e : Nat) : List Nat × Nat := (fsmRows.getD e []).getD s ([], s)
def fsmStep (s e : Int) : List Nat × Int := if 0 ≤ s ∧ s ≤ 9 ∧ 0 ≤ e ∧ e < 16 then ((fsmAt s.toNat e.toNat).1, ((fsmAt s.toNat e.toNat).2 : Int)) else ([], s)
structure Mach where
 state : Nat
 count : Nat
 left : Nat
 tries : Nat
 timeout : Nat
deriving DecidableEq
def Mach.act (m : Mach) (a : Nat) : Mach :=
 if a = 4 then { m with count := m.tries } else if a = 5 then { m with count := 0, left := m.timeout } else if a = 6 ∨ a = 9 then { m with count := m.count - 1, left := m.timeout } else m
def Mach.rest (m : Mach) : Mach := if m.state < 4 ∨ m.state = 9 then { m with left := 0 } else m
def Mach.step (m : Mach) (e : Nat) : List Nat × Mach := ((fsmAt m.state e).1, ((fsmAt m.state e).1.foldl Mach.act { m with state := (fsmAt m.state e).2 }).rest)
def does (e : Int) : Prop := 0 ≤ e ∧ e < 16 ∧ e ≠ 4 ∧ e ≠ 5
instance (e : Int) : Decidable (does e) := by unfold does; infer_instance
def Mach.act2 (m : Mach) (e : Int) : List Nat × Mach := if does e then m.step e.toNat else ([], m)
def Mach.tick (m : Mach) : List Nat × Mach :=
 if m.left = 0 then ([], m) else if 1 < m.left then ([], { m with left := m.left - 1 }) else if 0 < m.count then { m with left := 0 }.step 4 else { m with left := 0 }.step 5
def Mach.call (m : Mach) (x : Int) : List Nat × Mach := if x = -2 then m.tick else m.act2 x
def newMach (tries timeout : Nat) : Mach := ⟨0, 0, 0, tries, timeout⟩
theorem fsmAt_le : ∀ s < 10, ∀ e < 16, (fsmAt s e).2 ≤ 9 ∧ ∀ a ∈ (fsmAt s e).1, a ≤ 12 := by decide +kernel
structure Mach.Good (m : Mach) : Prop where
 state : m.state ≤ 9
 tries : 1 ≤ m.tries
 timeout : 1 ≤ m.timeout
 count : m.count ≤ m.tries
 left : m.left ≤ m.timeout
 rest : m.state < 4 ∨ m.state = 9 → m.left = 0
 runs : 4 ≤ m.state → m.state ≤ 8 → 0 < m.left
theorem newMach_good {t u : Nat} (ht : 1 ≤ t) (hu : 1 ≤ u) : (newMach t u).Good := ⟨by simp [newMach], ht, hu, by simp [newMach], by simp [newMach], fun _ => rfl, fun h => by simp [newMach] at h⟩
theorem act_keeps (l : List Nat) : ∀ (m : Mach), (l.foldl Mach.act m).state = m.state ∧ (l.foldl Mach.act m).tries = m.tries ∧ (l.foldl Mach.act m).timeout = m.timeout ∧
  (m.count ≤ m.tries → (l.foldl Mach.act m).count ≤ m.tries) ∧ (m.left ≤ m.timeout → (l.foldl Mach.act m).left ≤ m.timeout) ∧ (m.left = m.timeout → (l.foldl Mach.act m).left = m.timeout) := by
 induction l with
 | nil => intro m; exact ⟨rfl, rfl, rfl, id, id, id⟩
 | cons a l ih =>
  intro m
  rw [List.foldl_cons]
  obtain ⟨h1, h2, h3, h4, h5, h6⟩ := ih (m.act a)
  have k : (m.act a).state = m.state ∧ (m.act a).tries = m.tries ∧ (m.act a).timeout = m.timeout ∧ (m.count ≤ m.tries → (m.act a).count ≤ m.tries) ∧ (m.left ≤ m.timeout → (m.act a).left ≤ m.timeout) ∧ (m.left = m.timeout → (m.act a).left = m.timeout) := by
   unfold Mach.act
   split
   ·exact ⟨rfl, rfl, rfl, fun _ => Nat.le_refl _, id, id⟩
   ·split
    ·exact ⟨rfl, rfl, rfl, fun _ => Nat.zero_le _, fun _ => Nat.le_refl _, fun _ => rfl⟩
    ·split
     ·exact ⟨rfl, rfl, rfl, fun h => by show m.count - 1 ≤ m.tries; omega, fun _ => Nat.le_refl _, fun _ => rfl⟩
     ·exact ⟨rfl, rfl, rfl, id, id, id⟩
  obtain ⟨k1, k2, k3, k4, k5, k6⟩ := k
  rw [k2] at h2 h4
  rw [k3] at h3 h5 h6
  exact ⟨h1.trans k1, h2, h3, fun h => h4 (k4 h), fun h => h5 (k5 h), fun h => h6 (k6 h)⟩
def y1k (l : List Nat) : Bool := l.any fun a => a == 5 || a == 6 || a == 9
theorem y3w (l : List Nat) : ∀ (m : Mach), y1k l = true → (l.foldl Mach.act m).left = m.timeout := by
 induction l with
 | nil => intro m h; cases h
 | cons a l ih =>
  intro m h
  rw [List.foldl_cons]
  by_cases ha : a = 5 ∨ a = 6 ∨ a = 9
  ·have k : (m.act a).left = m.timeout ∧ (m.act a).timeout = m.timeout := by
    rcases ha with rfl | rfl | rfl <;> exact ⟨rfl, rfl⟩
   have := (act_keeps l (m.act a)).2.2.2.2.2 (by rw [k.1, k.2])
   rw [this, k.2]
  ·have hl : y1k l = true := by
    have : (a == 5 || a == 6 || a == 9) = false := by
     rw [Bool.eq_false_iff]; intro h; simp at h; omega
    simpa [y1k, this] using h
   rw [ih (m.act a) hl]
   unfold Mach.act
   split
   ·rfl
   ·split
    ·rfl
    ·split <;> rfl
theorem fsm_runs' : ∀ s < 10, ∀ e < 16, (fsmAt s e).2 < 4 ∨ 8 < (fsmAt s e).2 ∨ y1k (fsmAt s e).1 = true ∨ (4 ≤ s ∧ s ≤ 8 ∧ e ≠ 4 ∧ e ≠ 5) := by decide +kernel
theorem fsm_runs (s : Nat) (hs : s < 10) (e : Nat) (he : e < 16) (h1 : 4 ≤ (fsmAt s e).2) (h2 : (fsmAt s e).2 ≤ 8) : y1k (fsmAt s e).1 = true ∨ (4 ≤ s ∧ s ≤ 8 ∧ e ≠ 4 ∧ e ≠ 5) := by
 rcases fsm_runs' s hs e he with h | h | h
 ·omega
 ·omega
 ·exact h
theorem rest_eq (m : Mach) : m.rest.state = m.state ∧ m.rest.count = m.count ∧ m.rest.tries = m.tries ∧ m.rest.timeout = m.timeout ∧ (m.rest.left = m.left ∨ m.rest.left = 0) := by
 unfold Mach.rest
 split
 ·exact ⟨rfl, rfl, rfl, rfl, .inr rfl⟩
 ·exact ⟨rfl, rfl, rfl, rfl, .inl rfl⟩
theorem step_good {m : Mach} {e : Nat} (he : e < 16) (hs : m.state ≤ 9) (ht : 1 ≤ m.tries) (hu : 1 ≤ m.timeout) (hc : m.count ≤ m.tries) (hl : m.left ≤ m.timeout) (hr : e ≠ 4 → e ≠ 5 → 4 ≤ m.state → m.state ≤ 8 → 0 < m.left) :
  (m.step e).2.Good ∧ (m.step e).2.state = (fsmAt m.state e).2 ∧ (m.step e).2.tries = m.tries ∧ (m.step e).2.timeout = m.timeout := by
 obtain ⟨k1, k2, k3, k4, k5, k6⟩ := act_keeps (fsmAt m.state e).1 { m with state := (fsmAt m.state e).2 }
 obtain ⟨r1, r2, r3, r4, r5⟩ := rest_eq ((fsmAt m.state e).1.foldl Mach.act { m with state := (fsmAt m.state e).2 })
 have hst : (m.step e).2.state = (fsmAt m.state e).2 := r1.trans k1
 refine ⟨⟨?_, ?_, ?_, ?_, ?_, ?_, ?_⟩, hst, r3.trans k2, r4.trans k3⟩
 ·rw [hst]; exact (fsmAt_le m.state (by omega) e he).1
 ·rw [show (m.step e).2.tries = m.tries from r3.trans k2]; exact ht
 ·rw [show (m.step e).2.timeout = m.timeout from r4.trans k3]; exact hu
 ·rw [show (m.step e).2.count = _ from r2, show (m.step e).2.tries = m.tries from r3.trans k2]; exact k4 hc
 ·rw [show (m.step e).2.timeout = m.timeout from r4.trans k3]
  rcases r5 with h | h
  ·rw [show (m.step e).2.left = _ from h]; exact k5 hl
  ·rw [show (m.step e).2.left = _ from h]; omega
 ·intro h
  rw [hst] at h
  show (Mach.rest _).left = 0
  unfold Mach.rest
  rw [k1]
  rw [if_pos h]
 ·intro h1 h2
  rw [hst] at h1 h2
  show 0 < (Mach.rest _).left
  unfold Mach.rest
  rw [k1]
  rw [if_neg (show ¬ ((fsmAt m.state e).2 < 4 ∨ (fsmAt m.state e).2 = 9) by omega)]
  rcases fsm_runs m.state (by omega) e he h1 h2 with h | ⟨h3, h4, h5, h6⟩
  ·rw [y3w _ _ h]; exact hu
  ·by_cases hst : y1k (fsmAt m.state e).1 = true
   ·rw [y3w _ _ hst]; exact hu
   ·have hno : ∀ (l : List Nat) (m : Mach), y1k l = false → (l.foldl Mach.act m).left = m.left := by
     intro l
     induction l with
     | nil => intro m _; rfl
     | cons a l ih =>
      intro m h
      simp [y1k] at h
      rw [List.foldl_cons, ih _ (by simp [y1k]; exact h.2)]
      unfold Mach.act
      split
      ·rfl
      ·rw [if_neg (by omega), if_neg (by omega)]
    rw [hno _ _ (by simpa using hst)]
    exact hr h5 h6 h3 h4
theorem act2_good {m : Mach} (h : m.Good) (e : Int) : (m.act2 e).2.Good ∧ (m.act2 e).2.tries = m.tries ∧ (m.act2 e).2.timeout = m.timeout := by
 unfold Mach.act2
 split
 ·rename_i hd
  unfold does at hd
  obtain ⟨g, _, a, b⟩ := step_good (m := m) (e := e.toNat) (by omega) h.state h.tries h.timeout h.count h.left (fun _ _ => h.runs)
  exact ⟨g, a, b⟩
 ·exact ⟨h, rfl, rfl⟩
end Pure
namespace Pure
def many (f : Nat → Bool) (l : List Nat) : Nat := (l.filter f).length
def asks (l : List Nat) : Nat := many (fun a => a == 6 || a == 9) l
theorem act2_step {e : Nat} (he : does e) (m : Mach) : m.act2 e = m.step e := by
 unfold Mach.act2
 rw [if_pos he]
 rfl
end Pure
namespace Pure
structure Said where
 send : List Pkt
 up : Bool
 down : Bool
 start : Bool
 done : Bool
def mute : Said := ⟨[], false, false, false, false⟩
structure Reply where
 p : Pkt
 code : Nat
 l : List Opt
structure Neg where
 rules : List Rule
 first : List Opt
 request : List Opt
 m : Mach
 id : Nat
 asked : Nat
 naks : Nat
 waits : Bool
 acked : List Opt
 theirs : List Opt
 dropped : Nat
 ours : List UInt8
def Neg.next (n : Neg) : Nat := (n.id + 1) % 256
def Neg.again (n : Neg) : Neg := { n with request := n.first, naks := 0 }
def Said.more (o : Said) (p : Pkt) : Said := { o with send := o.send ++ [p] }
def sendOwn (s : Neg × Said) (code : Nat) (data : List UInt8) : Neg × Said := ({ s.1 with id := s.1.next }, s.2.more ⟨code, s.1.next, data⟩)
def sendReq (s : Neg × Said) : Neg × Said := ({ s.1 with ours := (options s.1.request).2, waits := true, id := s.1.next, asked := s.1.next }, s.2.more ⟨1, s.1.next, (options s.1.request).2⟩)
def y48 (s : Neg × Said) : Option Reply → Neg × Said
 | none => s
 | some q => ({ s.1 with naks := if q.code = 3 then s.1.naks + 1 else s.1.naks }, s.2.more ⟨q.code, q.p.id, (options q.l).2⟩)
def y3n (s : Neg × Said) : Option Reply → Neg × Said
 | none => sendOwn s 6 []
 | some q => if q.p.code = 5 then (s.1, s.2.more ⟨6, q.p.id, []⟩) else sendOwn s 6 []
def y3m (s : Neg × Said) : Option Reply → Neg × Said
 | none => s
 | some q => sendOwn s 7 ((encode q.p).2.take 1496)
def negAct (r : Option Reply) (s : Neg × Said) : Nat → Neg × Said
 | 0 => (s.1, { s.2 with up := true })
 | 1 => (s.1, { s.2 with down := true })
 | 2 => (s.1.again, { s.2 with start := true })
 | 3 => (s.1, { s.2 with done := true })
 | 6 => sendReq s
 | 7 => y48 s r
 | 8 => y48 s r
 | 9 => sendOwn s 5 []
 | 10 => y3n s r
 | 11 => y3m s r
 | _ => s
def Neg.acts (n : Neg) (l : List Nat) (r : Option Reply) : Neg × Said := l.foldl (negAct r) (n, mute)
def Neg.event (n : Neg) (e : Nat) (r : Option Reply) : Neg × Said := { n with m := (n.m.act2 e).2 }.acts (n.m.act2 e).1 r
def Neg.act (n : Neg) (e : Int) : Neg × Said :=
 if e < 0 ∨ 3 < e then (n, mute) else if e = 0 then n.again.event 0 none else n.event e.toNat none
def Neg.tick (n : Neg) : Neg × Said := { n with m := n.m.tick.2 }.acts n.m.tick.1 none
def Neg.drop (n : Neg) : Neg × Said := ({ n with dropped := n.dropped + 1 }, mute)
def Neg.ask (n : Neg) (l : List Opt) : Neg := if (options l).1 = 0 then { n with first := l } else n
def Neg.mine (n : Neg) : List Opt := if n.m.state = 9 then n.acked else []
def Neg.given (n : Neg) : List Opt := if n.m.state = 9 then n.theirs else []
def newNeg (rules : List Rule) (ask : List Opt) (tries timeout : Nat) : Neg := ⟨rules, ask, ask, newMach tries timeout, 0, 0, 0, false, [], [], 0, []⟩
end Pure
namespace Pure
theorem u8_nat (n : Nat) (h : n < 256) : (UInt8.ofNat n).toNat = n := by rw [UInt8.toNat_ofNat']; omega
theorem y6z (o : Opt) (l : List Opt) : joined (o :: l) = UInt8.ofNat o.1.toNat :: UInt8.ofNat (o.2.length + 2) :: (o.2 ++ joined l) := by simp [joined, Opt.bytes]
theorem y6p (l : List Opt) : ∀ (acc : List Opt), (∀ o ∈ l, ¬ Opt.odd o) → acc.length + l.length ≤ 32 → y14 (joined l) acc = (0, acc ++ l) := by
 induction l with
 | nil => intro acc _ _; simp [joined, y69]
 | cons o l ih =>
  intro acc ho hl
  obtain ⟨t, d⟩ := o
  have hodd : 0 ≤ t ∧ t ≤ 255 ∧ d.length ≤ 253 := by
   have := ho (t, d) (by simp)
   unfold Opt.odd at this
   dsimp only at this
   omega
  rw [y6z]
  dsimp only
  have h1 : (UInt8.ofNat (d.length + 2)).toNat = d.length + 2 := u8_nat _ (by omega)
  have h0 : (UInt8.ofNat t.toNat).toNat = t.toNat := u8_nat _ (by omega)
  simp only [List.length_cons] at hl
  rw [y5h (by simp) (by omega)]
  ·have e0 : (UInt8.ofNat t.toNat :: UInt8.ofNat (d.length + 2) :: (d ++ joined l)).getD 0 0 = UInt8.ofNat t.toNat := rfl
   have e1 : (UInt8.ofNat t.toNat :: UInt8.ofNat (d.length + 2) :: (d ++ joined l)).getD 1 0 = UInt8.ofNat (d.length + 2) := rfl
   rw [e0, e1, h0, h1]
   have ed : (UInt8.ofNat t.toNat :: UInt8.ofNat (d.length + 2) :: (d ++ joined l)).drop (d.length + 2) = joined l := by simp
   have et : ((UInt8.ofNat t.toNat :: UInt8.ofNat (d.length + 2) :: (d ++ joined l)).drop 2).take (d.length + 2 - 2) = d := by simp
   rw [ed, et, ih _ (fun o h => ho o (by simp [h])) (by rw [List.length_append]; simp only [List.length_cons, List.length_nil]; omega)]
   rw [show ((t.toNat : Nat) : Int) = t by omega]
   simp
  ·have e1 : (UInt8.ofNat t.toNat :: UInt8.ofNat (d.length + 2) :: (d ++ joined l)).getD 1 0 = UInt8.ofNat (d.length + 2) := rfl
   rw [e1, h1]
   simp
theorem y6k {l : List Opt} (h : (options l).1 = 0) : split (options l).2 = (0, l) ∧ l.length ≤ 32 ∧ ∀ o ∈ l, ¬ Opt.odd o := by
 unfold options at h ⊢
 split at h
 ·simp at h
 ·split at h
  ·simp at h
  ·rename_i h1 h2
   have ho : ∀ o ∈ l, ¬ Opt.odd o := fun o hm hodd => h2 ⟨o, hm, hodd⟩
   rw [if_neg h1, if_neg h2]
   refine ⟨?_, by omega, ho⟩
   have := y6p l [] ho (by simp; omega)
   simpa [split] using this
end Pure
namespace Pure
theorem y2a (rules : List Rule) (l nak : List Opt) (h : ∀ r ∈ rules, r.need = false) : ∀ k, needTo rules l nak k = nak
 | 0 => rfl
 | k + 1 => by
  have ih := y2a rules l nak h k
  unfold needTo
  cases hk : rules[k]? with
  | none => exact ih
  | some r =>
   dsimp only
   rw [if_pos (.inl (h r (List.mem_of_getElem? hk)))]
   exact ih
def begun (rules : List Rule) (ask : List Opt) (t u : Nat) : Neg := ⟨rules, ask, ask, ⟨6, t - 1, u, t, u⟩, 1, 1, 0, true, [], [], 0, (options ask).2⟩
def sends (l : List Pkt) : Said := ⟨l, false, false, false, false⟩
theorem neg_up (rules : List Rule) (ask : List Opt) (t u : Nat) : (newNeg rules ask t u).act 0 = (⟨rules, ask, ask, ⟨2, 0, 0, t, u⟩, 0, 0, 0, false, [], [], 0, []⟩, mute) := rfl
theorem neg_open (rules : List Rule) (ask : List Opt) (t u : Nat) : (⟨rules, ask, ask, ⟨2, 0, 0, t, u⟩, 0, 0, 0, false, [], [], 0, []⟩ : Neg).act 2 = (begun rules ask t u, sends [⟨1, 1, (options ask).2⟩]) := rfl
theorem judge_one (rules : List Rule) (hn : ∀ r ∈ rules, r.need = false) (rejects : Bool) (o : Opt) : judge rules [o] rejects = match verdict rules rejects [] o with | .pass => (2, [o]) | .reject => (4, [o]) | .offer p => (3, [p]) := by
 have e : judgeTo rules rejects [o] 1 = match verdict rules rejects [] o with | .pass => ([], []) | .reject => ([o], []) | .offer p => ([], [p]) := by
  show (match verdict rules rejects [] o with | .pass => _ | .reject => _ | .offer p => _) = _
  cases verdict rules rejects [] o <;> rfl
 unfold judge
 rw [show ([o] : List Opt).length = 1 from rfl, e]
 cases verdict rules rejects [] o with
 | pass => dsimp only; rw [y2a rules [o] [] hn]; simp
 | reject => rfl
 | offer p => dsimp only; rw [y2a rules [o] [p] hn]; simp
def rangeRule (lo hi : Nat) : Rule := ⟨1, 2, 2, lo, hi, [], false⟩
theorem y2v (lo hi : Nat) {b : List UInt8} (h : b.length = 2) : (rangeRule lo hi).numbered b := ⟨by show (1 : Int) ≤ 2; decide, by show (2 : Int) ≤ 4; decide, by show (b.length : Int) = 2; omega⟩
theorem y43 (lo hi : Nat) {b : List UInt8} (h : b.length = 2) : (rangeRule lo hi).fits b ↔ lo ≤ bnum b ∧ bnum b ≤ hi := by
 unfold Rule.fits
 constructor
 ·rintro (⟨h1, _⟩ | ⟨_, _, h1, h2⟩ | ⟨h1, _⟩ | ⟨h1, _⟩)
  ·exact absurd h1 (show ¬ (2 : Int) = 1 by decide)
  ·have h1 : (lo : Int) ≤ bnum b := h1
   have h2 : (bnum b : Int) ≤ hi := h2
   omega
  ·exact absurd h1 (show ¬ (2 : Int) = 3 by decide)
  ·exact absurd h1 (show ¬ (2 : Int) = 4 by decide)
 ·rintro ⟨h1, h2⟩
  exact .inr (.inl ⟨rfl, y2v lo hi h, by show (lo : Int) ≤ bnum b; omega, by show (bnum b : Int) ≤ hi; omega⟩)
theorem y6g (lo hi : Nat) {b : List UInt8} (h : b.length = 2) : (rangeRule lo hi).offers b = some (1, wide (if bnum b < lo then lo else hi) 2) := by
 unfold Rule.offers
 rw [if_pos ⟨rfl, by show (1 : Int) ≤ 2; decide, by show (2 : Int) ≤ 4; decide⟩]
 have e : ((rangeRule lo hi).numbered b ∧ (bnum b : Int) < (rangeRule lo hi).lo) ↔ bnum b < lo := by
  constructor
  ·rintro ⟨_, h1⟩
   have h1 : (bnum b : Int) < lo := h1
   omega
  ·intro h1
   exact ⟨y2v lo hi h, by show (bnum b : Int) < lo; omega⟩
 by_cases hl : bnum b < lo
 ·rw [if_pos (e.2 hl), if_pos hl]; rfl
 ·rw [if_neg (fun x => hl (e.1 x)), if_neg hl]; rfl
theorem y71 (lo hi : Nat) (more : List Rule) (hn : ∀ r ∈ more, r.need = false) (rejects : Bool) {b : List UInt8} (h : b.length = 2) :
  judge (rangeRule lo hi :: more) [(1, b)] rejects = if lo ≤ bnum b ∧ bnum b ≤ hi then (2, [(1, b)]) else if rejects = true then (4, [(1, b)]) else (3, [(1, wide (if bnum b < lo then lo else hi) 2)]) := by
 rw [judge_one _ (fun r hr => by rcases List.mem_cons.1 hr with rfl | hr; rfl; exact hn r hr)]
 have hv : verdict (rangeRule lo hi :: more) rejects [] (1, b) = if lo ≤ bnum b ∧ bnum b ≤ hi then .pass else if rejects = true then .reject else .offer (1, wide (if bnum b < lo then lo else hi) 2) := by
  unfold verdict
  rw [show ruleOf (rangeRule lo hi :: more) (1, b).1 = some (rangeRule lo hi) from rfl]
  dsimp only
  rw [if_neg (show ¬ hasType [] (1 : Int) = true by decide), y6g lo hi h]
  by_cases hf : lo ≤ bnum b ∧ bnum b ≤ hi
  ·rw [if_pos hf, if_pos ((y43 lo hi h).2 hf)]
  ·rw [if_neg hf, if_neg (fun x => hf ((y43 lo hi h).1 x))]
 rw [hv]
 by_cases hf : lo ≤ bnum b ∧ bnum b ≤ hi
 ·rw [if_pos hf, if_pos hf]
 ·rw [if_neg hf, if_neg hf]
  cases rejects <;> rfl
end Pure
namespace Pure
def deadRule : Rule := ⟨0, 0, 0, 0, 0, [], false⟩
def ruleFor (rules : List Rule) (t : Int) : Rule := (ruleOf rules t).getD deadRule
theorem dead_fits (b : List UInt8) : ¬ deadRule.fits b := by
 unfold Rule.fits deadRule
 simp
theorem y27 (b : List UInt8) : deadRule.offers b = none := by
 unfold Rule.offers deadRule
 simp
theorem y3k {rules : List Rule} {t : Int} {r : Rule} (h : ruleOf rules t = some r) : r.type = t := by
 unfold ruleOf at h
 have := List.find?_some h
 simpa using this
theorem offers_type {r : Rule} {b : List UInt8} {o : Opt} (h : r.offers b = some o) : o.1 = r.type := by
 unfold Rule.offers at h
 split at h
 ·injection h with h; rw [← h]
 ·split at h
  ·injection h with h; rw [← h]
  ·split at h
   ·injection h with h; rw [← h]
   ·cases h
def refuses (rules : List Rule) (rejects : Bool) (before : List Opt) (o : Opt) : Bool :=
 hasType before o.1 || (!decide ((ruleFor rules o.1).fits o.2) && (rejects || ((ruleFor rules o.1).offers o.2).isNone))
def counter (rules : List Rule) (o : Opt) : Option Opt := if (ruleFor rules o.1).fits o.2 then none else (ruleFor rules o.1).offers o.2
theorem judgeTo_step (rules : List Rule) (rejects : Bool) (l : List Opt) (k : Nat) (o : Opt) (h : l[k]? = some o) : judgeTo rules rejects l (k + 1) =
  if refuses rules rejects (l.take k) o = true then ((judgeTo rules rejects l k).1 ++ [o], (judgeTo rules rejects l k).2)
  else ((judgeTo rules rejects l k).1, (judgeTo rules rejects l k).2 ++ (counter rules o).toList) := by
 rw [judgeTo, h]
 dsimp only
 unfold verdict refuses counter ruleFor
 cases hr : ruleOf rules o.1 with
 | none =>
  have h1 := dead_fits o.2
  have h2 := y27 o.2
  simp [h1, h2]
 | some r =>
  dsimp only [Option.getD_some]
  by_cases hb : hasType (l.take k) o.1 = true
  ·simp [hb]
  ·by_cases hf : r.fits o.2
   ·simp [hb, hf]
   ·obtain ⟨x, hx⟩ : ∃ x, r.offers o.2 = x := ⟨_, rfl⟩
    cases x with
    | none => simp [hf, hb, hx]
    | some p =>
     cases rejects
     ·simp [hb, hf, hx]
     ·simp [hf, hb, hx]
theorem y2u (rules : List Rule) (rejects : Bool) (l : List Opt) (k : Nat) (h : l.length ≤ k) : judgeTo rules rejects l (k + 1) = judgeTo rules rejects l k := by
 rw [judgeTo, List.getElem?_eq_none h]
theorem take_snoc {α : Type} (l : List α) (k : Nat) (o : α) (h : l[k]? = some o) : l.take (k + 1) = l.take k ++ [o] := by
 rw [List.take_add_one, h]
 rfl
theorem y1d (rules : List Rule) (rejects : Bool) (l : List Opt) : ∀ k, (judgeTo rules rejects l k).1 = [] → (judgeTo rules rejects l k).2 = (l.take k).filterMap (counter rules)
 | 0, _ => rfl
 | k + 1, h => by
  cases hk : l[k]? with
  | none =>
   have hl : l.length ≤ k := by simpa using hk
   rw [y2u rules rejects l k hl] at h ⊢
   rw [y1d rules rejects l k h, List.take_of_length_le hl, List.take_of_length_le (by omega)]
  | some o =>
   rw [judgeTo_step rules rejects l k o hk] at h ⊢
   rw [take_snoc l k o hk, List.filterMap_append]
   split at h
   ·simp at h
   ·rename_i hn
    rw [if_neg hn]
    dsimp only at h ⊢
    rw [y1d rules rejects l k h, show [o].filterMap (counter rules) = (counter rules o).toList by cases hc : counter rules o <;> simp [hc]]
theorem y25 (rules : List Rule) (l : List Opt) : ∀ k, (judgeTo rules true l k).2 = []
 | 0 => rfl
 | k + 1 => by
  have ih := y25 rules l k
  cases hk : l[k]? with
  | none => rw [y2u rules true l k (by simpa using hk)]; exact ih
  | some o =>
   rw [judgeTo_step rules true l k o hk]
   split
   ·exact ih
   ·rename_i hn
    dsimp only
    rw [ih, List.nil_append]
    unfold refuses at hn
    unfold counter
    by_cases hf : (ruleFor rules o.1).fits o.2
    ·rw [if_pos hf]; rfl
    ·simp [hf] at hn
def hasRule (rules : List Rule) (t : Int) : Bool := rules.any fun r => decide (r.type = t)
def missTo (rules : List Rule) (l : List Opt) : Nat → List Opt
 | 0 => []
 | k + 1 =>
  match rules[k]? with
  | none => missTo rules l k
  | some r =>
   if r.need = false ∨ hasRule (rules.take k) r.type = true ∨ hasType l r.type = true then missTo rules l k
   else missTo rules l k ++ (r.offers []).toList
theorem y29 (rules : List Rule) (l : List Opt) (k : Nat) (h : rules.length ≤ k) : missTo rules l (k + 1) = missTo rules l k := by
 rw [missTo, List.getElem?_eq_none h]
theorem missTo_step (rules : List Rule) (l : List Opt) (k : Nat) (r : Rule) (h : rules[k]? = some r) : missTo rules l (k + 1) =
  if r.need = false ∨ hasRule (rules.take k) r.type = true ∨ hasType l r.type = true then missTo rules l k else missTo rules l k ++ (r.offers []).toList := by
 rw [missTo, h]
theorem y1i (rules : List Rule) (l : List Opt) (t : Int) : ∀ k, hasType (missTo rules l k) t = true → hasRule (rules.take k) t = true
 | 0, h => by simp [missTo, hasType] at h
 | k + 1, h => by
  cases hk : rules[k]? with
  | none =>
   have hl : rules.length ≤ k := by simpa using hk
   rw [y29 rules l k hl] at h
   have := y1i rules l t k h
   rw [List.take_of_length_le hl] at this
   rw [List.take_of_length_le (show rules.length ≤ k + 1 by omega)]
   exact this
  | some r =>
   rw [missTo_step rules l k r hk] at h
   rw [take_snoc rules k r hk]
   unfold hasRule
   rw [List.any_append]
   split at h
   ·have := y1i rules l t k h
    unfold hasRule at this
    rw [this]; rfl
   ·unfold hasType at h
    rw [List.any_append] at h
    rcases Bool.or_eq_true_iff.1 h with h | h
    ·have := y1i rules l t k h
     unfold hasRule at this
     rw [this]; rfl
    ·cases ho : r.offers [] with
     | none => simp [ho] at h
     | some o =>
      simp [ho] at h
      have := offers_type ho
      simp [← h, this]
theorem y3j {rules : List Rule} {t : Int} {k : Nat} (h : hasRule (rules.take k) t = true) : ∃ j r, j < k ∧ rules[j]? = some r ∧ r.type = t ∧ ruleOf rules t = some r ∧ hasRule (rules.take j) t = false := by
 induction k with
 | zero => simp [hasRule] at h
 | succ k ih =>
  by_cases hb : hasRule (rules.take k) t = true
  ·obtain ⟨j, r, hj, rest⟩ := ih hb
   exact ⟨j, r, by omega, rest⟩
  ·have hb : hasRule (rules.take k) t = false := by simpa using hb
   cases hk : rules[k]? with
   | none =>
    have hl : rules.length ≤ k := by simpa using hk
    rw [List.take_of_length_le (show rules.length ≤ k + 1 by omega)] at h
    rw [List.take_of_length_le hl, h] at hb
    cases hb
   | some r =>
    rw [take_snoc rules k r hk] at h
    unfold hasRule at h hb
    rw [List.any_append, hb] at h
    have ht : r.type = t := by simpa using h
    refine ⟨k, r, by omega, hk, ht, ?_, hb⟩
    unfold ruleOf
    have hs : rules = (rules.take k ++ [r]) ++ rules.drop (k + 1) := by rw [← take_snoc rules k r hk, List.take_append_drop]
    rw [hs, List.find?_append, List.find?_append]
    have h0 : (rules.take k).find? (fun r => decide (r.type = t)) = none := by
     rw [List.find?_eq_none]
     intro x hx
     have := (List.any_eq_false.1 hb) x hx
     simpa using this
    rw [h0]
    simp [ht]
theorem missTo_has (rules : List Rule) (l : List Opt) (j k : Nat) (h : j ≤ k) (o : Opt) (ho : o ∈ missTo rules l j) : o ∈ missTo rules l k := by
 induction k with
 | zero =>
  have : j = 0 := by omega
  subst this; exact ho
 | succ k ih =>
  rcases Nat.lt_or_ge k j with hj | hj
  ·have : j = k + 1 := by omega
   subst this; exact ho
  ·have := ih hj
   cases hk : rules[k]? with
   | none => rw [y29 rules l k (by simpa using hk)]; exact this
   | some r =>
    rw [missTo_step rules l k r hk]
    split
    ·exact this
    ·exact List.mem_append_left _ this
theorem y3f (rules : List Rule) (l nak : List Opt) (hn : ∀ o ∈ nak, hasType l o.1 = true) : ∀ k, needTo rules l nak k = nak ++ missTo rules l k
 | 0 => by simp [needTo, missTo]
 | k + 1 => by
  have ih := y3f rules l nak hn k
  rw [needTo]
  cases hk : rules[k]? with
  | none =>
   dsimp only
   rw [y29 rules l k (by simpa using hk)]
   exact ih
  | some r =>
   dsimp only
   rw [missTo_step rules l k r hk, ih]
   by_cases h1 : r.need = false
   ·rw [if_pos (.inl h1), if_pos (.inl h1)]
   ·by_cases h2 : hasType l r.type = true
    ·rw [if_pos (.inr (.inl h2)), if_pos (.inr (.inr h2))]
    ·have hnak : hasType nak r.type = false := by
      unfold hasType
      rw [List.any_eq_false]
      intro p hp
      simp only [decide_eq_true_eq]
      intro e
      exact h2 (e ▸ hn p hp)
     have hsplit : hasType (nak ++ missTo rules l k) r.type = hasType (missTo rules l k) r.type := by
      unfold hasType at hnak ⊢
      rw [List.any_append, hnak, Bool.false_or]
     rw [hsplit]
     by_cases h3 : hasRule (rules.take k) r.type = true
     ·rw [if_pos (show r.need = false ∨ hasRule (rules.take k) r.type = true ∨ hasType l r.type = true from .inr (.inl h3))]
      obtain ⟨j, f, hj, hfj, hft, hff, hfn⟩ := y3j h3
      split
      ·rfl
      ·rename_i hno
       rw [hff]
       dsimp only
       split
       ·rfl
       ·rename_i hneed
        cases ho : f.offers [] with
        | none => rfl
        | some o =>
         exfalso
         apply hno
         refine .inr (.inr ?_)
         have hin : o ∈ missTo rules l (j + 1) := by
          rw [missTo_step rules l j f hfj, if_neg (by rw [hft]; simp [hneed, hfn, h2]), ho]
          simp
         have := missTo_has rules l (j + 1) k (by omega) o hin
         unfold hasType
         rw [List.any_eq_true]
         exact ⟨o, this, by simp [offers_type ho, hft]⟩
     ·have hm : hasType (missTo rules l k) r.type = false := by
       rw [← Bool.not_eq_true]
       exact fun h => h3 (y1i rules l r.type k h)
      have hfirst : ruleOf rules r.type = some r := by
       have h4 : hasRule (rules.take (k + 1)) r.type = true := by
        rw [take_snoc rules k r hk]
        unfold hasRule
        rw [List.any_append]
        simp
       obtain ⟨j, f, hj, hfj, hft, hff, hfn⟩ := y3j h4
       rcases Nat.lt_or_ge j k with hjk | hjk
       ·exfalso
        apply h3
        unfold hasRule
        rw [List.any_eq_true]
        exact ⟨f, List.mem_of_getElem? (show (rules.take k)[j]? = some f by rw [List.getElem?_take, if_pos hjk]; exact hfj), by simp [hft]⟩
       ·obtain rfl : j = k := by omega
        rw [hk] at hfj
        injection hfj with hfj
        rw [← hfj] at hff; exact hff
      rw [if_neg (by simp [h1, h2, hm]), if_neg (by simp [h1, h2, h3]), hfirst]
      dsimp only
      rw [if_neg h1]
      cases ho : r.offers [] with
      | none => simp
      | some o => simp
theorem judge_prog (rules : List Rule) (l : List Opt) (rejects : Bool) : judge rules l rejects =
  if (judgeTo rules rejects l l.length).1 ≠ [] then (4, (judgeTo rules rejects l l.length).1)
  else if rejects = true then (2, l)
  else if l.filterMap (counter rules) ++ missTo rules l rules.length ≠ [] then (3, l.filterMap (counter rules) ++ missTo rules l rules.length) else (2, l) := by
 unfold judge
 by_cases h : (judgeTo rules rejects l l.length).1 ≠ []
 ·rw [if_pos h, if_pos h]
 ·rw [if_neg h, if_neg h]
  have h0 : (judgeTo rules rejects l l.length).1 = [] := by simpa using h
  have h1 := y1d rules rejects l l.length h0
  rw [List.take_length] at h1
  cases rejects
  ·dsimp only
   simp only [Bool.false_eq_true, if_false]
   rw [h1, y3f rules l _ (fun o ho => ?_)]
   obtain ⟨p, hp, hc⟩ := List.mem_filterMap.1 ho
   unfold counter at hc
   split at hc
   ·cases hc
   ·have ht := offers_type hc
    unfold ruleFor at ht
    unfold hasType
    rw [List.any_eq_true]
    refine ⟨p, hp, ?_⟩
    simp only [decide_eq_true_eq]
    cases hr : ruleOf rules p.1 with
    | none =>
     unfold ruleFor at hc
     rw [hr] at hc
     simp [y27] at hc
    | some r =>
     rw [hr] at ht
     rw [ht]
     exact (y3k hr).symm
  ·rw [y25]
   simp
end Pure
open Go.RowKit
theorem y6y {α : Type} (f : α → List Value) (n : Nat) (hf : ∀ a, (f a).length = n) (ps : List α) : (ps.flatMap f).length = ps.length * n := by
 induction ps with
 | nil => simp
 | cons p ps ih => rw [List.flatMap_cons, List.length_append, ih, hf, List.length_cons, Nat.add_mul, Nat.one_mul]; omega
theorem flat_at {α : Type} (f : α → List Value) (n : Nat) (hf : ∀ a, (f a).length = n) (ps : List α) (k j : Nat) (p : α) (h : ps[k]? = some p) (hj : j < n) : (ps.flatMap f)[k * n + j]? = (f p)[j]? := by
 induction ps generalizing k with
 | nil => simp at h
 | cons q ps ih =>
  rw [List.flatMap_cons]
  rcases k with _ | k
  ·simp at h
   subst h
   rw [Nat.zero_mul, Nat.zero_add, List.getElem?_append_left (by rw [hf]; exact hj)]
  ·rw [List.getElem?_append_right (by rw [hf, Nat.add_mul]; omega), hf]
   have := ih k (by simpa using h)
   rw [← this]
   congr 1
   rw [Nat.add_mul]
   omega
abbrev y04 (p : Value × Pure.Rule) : List Value := [.int .i64 p.2.type, .int .i64 p.2.len, .int .i64 p.2.how, .int .i64 p.2.lo, .int .i64 p.2.hi, p.1, .bool p.2.need]
abbrev y0g (p : Value × Pure.Rule) : Value := .agg (y04 p).toArray
abbrev y0h (ps : List (Value × Pure.Rule)) : List Value := ps.flatMap y04
theorem y1u (ps : List (Value × Pure.Rule)) : (y0h ps).length = ps.length * 7 := y6y y04 7 (fun _ => rfl) ps
theorem y2p (ps : List (Value × Pure.Rule)) (k j : Nat) (p : Value × Pure.Rule) (h : ps[k]? = some p) (hj : j < 7) : (y0h ps)[k * 7 + j]? = (y04 p)[j]? := flat_at y04 7 (fun _ => rfl) ps k j p h hj
structure RRow (w : World) (F : Nat → Prop) (x : Value) (ps : List (Value × Pure.Rule)) : Prop where
 out : Row w F 7 x ps.length (y0h ps)
 rows : ∀ p ∈ ps, Row w F 1 p.1 p.2.want.length (u8s p.2.want)
theorem RRow.keeps {S F : Nat → Prop} {w w' : World} {x : Value} {ps : List (Value × Pure.Rule)} (h : RRow w F x ps) (k : Keeps S w w') (hs : ∀ b, F b → ¬ S b) : RRow w' F x ps :=
 ⟨h.out.keeps k hs, fun p hp => (h.rows p hp).keeps k hs⟩
theorem RRow.mono {F G : Nat → Prop} {w : World} {x : Value} {ps : List (Value × Pure.Rule)} (h : RRow w F x ps) (hG : ∀ b, F b → G b) : RRow w G x ps :=
 ⟨h.out.mono hG, fun p hp => (h.rows p hp).mono hG⟩
theorem RRow.nil (w : World) (F : Nat → Prop) : RRow w F (.slice none 0 0) [] := ⟨Row.nil _ _ _, by simp⟩
def In64 (n : Int) : Prop := -9223372036854775808 ≤ n ∧ n ≤ 9223372036854775807
structure Rule64 (r : Pure.Rule) : Prop where
 type : In64 r.type
 len : In64 r.len
 how : In64 r.how
 lo : In64 r.lo
 hi : In64 r.hi
theorem rules_of {w : World} {a : Option Addr} {len cap : Nat} (h : y0q w [.int .i64, .int .i64, .int .i64, .int .i64, .int .i64, .row .u8, .bool] a len cap) :
  ∃ ps : List (Value × Pure.Rule), ps.length = len ∧ RRow w (fun b => b < w.heap.size) (.slice a len cap) ps ∧ ∀ p ∈ ps, Rule64 p.2 := by
 rcases h with ⟨rfl, rfl, rfl⟩ | ⟨x, rfl, hl, hm, hi⟩
 ·exact ⟨[], rfl, RRow.nil _ _, by simp⟩
 ·obtain ⟨ps, hpl, hps⟩ := y28 (P := fun i (d : Value × Pure.Rule) => (∀ j u, (y04 d)[j]? = some u → w.cell? (x.add (i * 7 + j)) = some u) ∧ Row w (fun b => b < w.heap.size) 1 d.1 d.2.want.length (u8s d.2.want) ∧ Rule64 d.2) len (fun i hil => by
   obtain ⟨u0, h0, n0, rfl, w0⟩ := hi i hil 0 _ rfl
   obtain ⟨u1, h1, n1, rfl, w1⟩ := hi i hil 1 _ rfl
   obtain ⟨u2, h2, n2, rfl, w2⟩ := hi i hil 2 _ rfl
   obtain ⟨u3, h3, n3, rfl, w3⟩ := hi i hil 3 _ rfl
   obtain ⟨u4, h4, n4, rfl, w4⟩ := hi i hil 4 _ rfl
   obtain ⟨u5, h5, a', l', c', zs, rfl, hr⟩ := hi i hil 5 _ rfl
   obtain ⟨u6, h6, b6, rfl⟩ := hi i hil 6 _ rfl
   obtain ⟨bs, hbl, hrow⟩ := hr.bytes
   refine ⟨(.slice a' l' c', ⟨n0, n1, n2, n3, n4, bs, b6⟩), fun j u hu => ?_, ?_, ⟨y1f w0, y1f w1, y1f w2, y1f w3, y1f w4⟩⟩
   ·match j, hu with
    | 0, hu => cases hu; exact h0
    | 1, hu => cases hu; exact h1
    | 2, hu => cases hu; exact h2
    | 3, hu => cases hu; exact h3
    | 4, hu => cases hu; exact h4
    | 5, hu => cases hu; exact h5
    | 6, hu => cases hu; exact h6
    | j + 7, hu => simp at hu
   ·rw [← hbl] at hrow ⊢
    exact hrow)
  refine ⟨ps, hpl, ⟨⟨y1u ps, by omega, some x, cap, by rw [hpl], by omega, by simp, fun hz => ?_⟩, fun p hp => ?_⟩, fun p hp => ?_⟩
  ·have h1 := (hps 0 ps[0] (List.getElem?_eq_getElem hz)).1 0 _ rfl
   obtain ⟨b, off, rfl⟩ := y1y h1
   rw [y15] at h1
   refine ⟨b, off, rfl, y0n h1, fun j u hu => ?_⟩
   have hj : j < ps.length * 7 := by
    have := (List.getElem?_eq_some_iff.1 hu).1
    rwa [y1u] at this
   have hk : j / 7 < ps.length := by omega
   have q := (hps (j / 7) _ (List.getElem?_eq_getElem hk)).1 (j % 7)
   have o := y2p ps (j / 7) (j % 7) _ (List.getElem?_eq_getElem hk) (by omega)
   rw [show j / 7 * 7 + j % 7 = j by omega] at o q
   rw [hu] at o
   have := q u o.symm
   rwa [y15] at this
  ·obtain ⟨i, hi', rfl⟩ := List.getElem_of_mem hp
   exact (hps i _ (List.getElem?_eq_getElem hi')).2.1
  ·obtain ⟨i, hi', rfl⟩ := List.getElem_of_mem hp
   exact (hps i _ (List.getElem?_eq_getElem hi')).2.2
theorem RRow.form {w : World} {F : Nat → Prop} {x : Value} {ps : List (Value × Pure.Rule)} (h : RRow w F x ps) : ∃ A c, x = .slice A ps.length c ∧ ps.length ≤ c := by
 obtain ⟨_, _, A, c, rfl, hc, _⟩ := h.out
 exact ⟨A, c, rfl, hc⟩
theorem RRow.pick {w : World} {F : Nat → Prop} {X : Option Addr} {n cx : Nat} {ps : List (Value × Pure.Rule)} (h : RRow w F (.slice X n cx) ps) (k : Nat) (hk : k < ps.length) :
  ∃ p o A c r, X = some ⟨p, o, none⟩ ∧ F p ∧ (∀ j u, (y04 (.slice A r.want.length c, r))[j]? = some u → w.cell? ⟨p, o + k * 7 + j, none⟩ = some u) ∧ Row w F 1 (.slice A r.want.length c) r.want.length (u8s r.want) ∧ ps[k]? = some (.slice A r.want.length c, r) := by
 obtain ⟨_, _, A', c', e, _, _, hh⟩ := h.out
 obtain ⟨p, o, rfl, hF, hc⟩ := hh (by omega)
 injection e with e1 _ _
 have hget := List.getElem?_eq_getElem hk
 have hr := h.rows ps[k] (List.getElem_mem hk)
 obtain ⟨A, c, hform, _⟩ := hr.form
 refine ⟨p, o, A, c, ps[k].2, e1, hF, fun j u hu => ?_, by rw [← hform]; exact hr, by rw [hget, ← hform]⟩
 rw [← hform] at hu
 have hj : j < 7 := (List.getElem?_eq_some_iff.1 hu).1
 rw [Nat.add_assoc]
 exact hc (k * 7 + j) u ((y2p ps k j _ hget hj).trans hu)
theorem y19 (F : Nat → Prop) (x : Value) (n : Nat) (l : List UInt8) (w : World) (hr : Row w F 1 x n (u8s l)) (hn : n ≤ 140737488355328) :
  Calls Try.prog 52 #[x] w fun e w' => ∃ v, e = .returned v ∧ w'.ownsRow w.heap.size 5 1 v n (u8s l) ∧ Below w.heap.size w w' := by
 obtain ⟨i0, hi0, hz0, hz1, hz2⟩ := info_parts y1w
 have hr' := hr
 obtain ⟨hl, hm, A, c, rfl, hc, hA, hcell⟩ := hr
 rcases A with _ | ad
 ·obtain rfl := hA rfl
  have hl0 : u8s l = [] := List.eq_nil_of_length_eq_zero (by simpa using hl)
  clear hcell hA hl
  have hq := fun (W : World) => Lib.run_eql_slice_nil (P := Try.prog) W 38 5 none 0 c 0 0 Try.underlying38
  go_enter Try.func52, Try.ntmps52
  go_wp2
  go_ret
  refine ⟨_, rfl, ⟨by rw [hl0]; rfl, .inl ⟨rfl, rfl⟩⟩, Below.refl _ _⟩
 ·have HL := xhd hl
  have hbw : Row (w.alloc (.cells #[] 5)) F 1 (.slice (some ad) n c) n (u8s l) :=
   hr'.cellsOf fun b off u _ hu => (World.cell?_alloc_lt w _ ⟨b, off, none⟩ (y0n hu)).trans hu
  clear hl hcell hA hr'
  have hq := fun (W : World) => Lib.run_eql_slice_nil (P := Try.prog) W 38 5 (some ad) n c 0 0 Try.underlying38
  go_enter Try.func52, Try.ntmps52
  go_wp2_with (at_builtin; refine y0j ?_)
  unfold Hid
  refine y0k rfl (.tmp 5) (.tmp 6) _ rfl w.heap.size 5 i0 _ 1 1 Try.underlying38 hi0 hz0 hz1 hz2 rfl (by omega) (.slice (some ⟨w.heap.size, 0, none⟩) 0 0) 0 []
   rfl (y6l _ _ _ _ (Nat.le_refl _)) F _ n (u8s l) rfl hbw (y35 l) (by omega) (by omega) (by simp) ?_
  intro v1 w1 hown1 hg1 hat1
  go_wp2
  go_ret
  refine ⟨v1, rfl, by simpa using hown1, ((Below.refl _ _).alloc (Nat.le_refl _) _).grown hg1 (by simp) ?_⟩
  intro k hk
  simp [Value.ownBlock] at hk
  omega
theorem push_all : ∀ (l : List UInt8) (s : ByteArray), (l.map fun b => (b.toNat : Int)).foldl (fun r n => r.push (UInt8.ofNat n.toNat)) s = ⟨s.data ++ l.toArray⟩
 | [], s => by simp
 | x :: l, s => by
  rw [List.map_cons, List.foldl_cons, push_all l]
  simp [ByteArray.push]
theorem y47 {F : Nat → Prop} {A : Option Addr} {n c : Nat} {l : List UInt8} {w : World} (h : Row w F 1 (.slice A n c) n (u8s l)) :
  (convert 38 9 (.slice A n c)).run Try.prog w = .ok (.string ⟨l.toArray⟩) w := by
 have hl := h.1
 have hln : n = l.length := by simpa using hl.symm
 rcases A with _ | a
 ·have h0 : n = 0 := by
   obtain ⟨_, _, A', c', e, _, _, hh⟩ := h
   rcases Nat.eq_zero_or_pos n with h0 | h0
   ·exact h0
   ·obtain ⟨b, off, rfl, _⟩ := hh h0
    injection e with e1
    cases e1
  subst h0
  have : l = [] := List.eq_nil_of_length_eq_zero hln.symm
  subst this
  exact Lib.run_convert_nil_bytes w 38 9 5 c Try.underlying38 Try.underlying5 Try.underlying9
 ·rw [run_convert_bytes_string w 38 9 5 _ n c Try.underlying38 Try.underlying5 Try.underlying9]
  have hlc : (loadCells a n).run Try.prog w = .ok (u8s l).toArray w := by
   have := run_loadCells_list (P := Try.prog) (w := w) a (u8s l) (fun j v hj => by
    have hj' : j < l.length := by simpa using (List.getElem?_eq_some_iff.1 hj).1
    obtain ⟨b, off, e, _, hc⟩ := h.cellAt (by omega)
    injection e with e
    subst e
    rw [y15]
    exact hc j v hj)
   rw [hln]
   simpa using this
  rw [run_bytesToString w a n c (l.map fun b => (b.toNat : Int)) (by rw [hlc]; simp [u8s])]
  rw [push_all]
  simp
theorem y3y (F G : Nat → Prop) (x y : Value) (n m : Nat) (a b : List UInt8) (w : World) (hx : Row w F 1 x n (u8s a)) (hy : Row w G 1 y m (u8s b)) :
  Calls Try.prog 59 #[x, y] w fun e w' => e = .returned (.bool (decide (a = b))) ∧ w = w' := by
 obtain ⟨A, cA, rfl, _⟩ := hx.form
 obtain ⟨B, cB, rfl, _⟩ := hy.form
 have h1 := y47 hx
 have h2 := y47 hy
 have HB := xhd (show (a == b) = decide (a = b) by rw [Bool.eq_iff_iff]; simp)
 clear hx hy
 go_enter Try.func59, Try.ntmps59
 go_wp2
 go_ret
 exact ⟨by rw [← HB.out]; rfl, rfl⟩
def y1h {α : Type} (p : α → Bool) (l : List α) (i : Int) : Prop :=
 (i = -1 ∧ ∀ x ∈ l, p x = false) ∨ ∃ (k : Nat) (x : α), i = (k : Int) ∧ l[k]? = some x ∧ p x = true ∧ ∀ y ∈ l.take k, p y = false
def Placed {α : Type} (w : World) (e : Ending) (w' : World) (p : α → Bool) (l : List α) : Prop := ∃ i, e = .returned (.int .i64 i) ∧ y1h p l i ∧ Keeps y02 w w'
theorem y1h.lt {α : Type} {p : α → Bool} {l : List α} {i : Int} (h : y1h p l i) : -1 ≤ i ∧ i < (l.length : Int) ∨ i = -1 := by
 rcases h with ⟨rfl, _⟩ | ⟨k, x, rfl, hk, _⟩
 ·exact .inr rfl
 ·have := (List.getElem?_eq_some_iff.1 hk).1
  exact .inl (by omega)
theorem y1h.neg {α : Type} {p : α → Bool} {l : List α} {i : Int} (h : y1h p l i) : decide (i < 0) = !l.any p := by
 rcases h with ⟨rfl, h⟩ | ⟨k, x, rfl, hk, hp, _⟩
 ·have : l.any p = false := by rw [List.any_eq_false]; intro x hx; simp [h x hx]
  rw [this]; rfl
 ·have : l.any p = true := List.any_eq_true.2 ⟨x, List.mem_of_getElem? hk, hp⟩
  rw [this, decide_eq_false (by omega)]; rfl
theorem y1h.any {α : Type} {p : α → Bool} {l : List α} {i : Int} (h : y1h p l i) : decide (0 ≤ i) = l.any p := by
 have := h.neg
 rcases h with ⟨rfl, h⟩ | ⟨k, x, rfl, _⟩
 ·cases ha : l.any p
  ·rfl
  ·rw [ha] at this; simp at this
 ·cases ha : l.any p
  ·rw [ha] at this
   have := of_decide_eq_true this
   omega
  ·exact decide_eq_true (by omega)
theorem y1h.before {α : Type} {p : α → Bool} {l : List α} {i : Int} (h : y1h p l i) (k : Nat) (x : α) (hk : l[k]? = some x) (hx : p x = true) : decide (i < (k : Int)) = (l.take k).any p := by
 rcases h with ⟨rfl, h⟩ | ⟨j, y, rfl, hj, hy, hno⟩
 ·have := h x (List.mem_of_getElem? hk)
  rw [hx] at this
  cases this
 ·by_cases hjk : j < k
  ·rw [decide_eq_true (by omega)]
   symm
   rw [List.any_eq_true]
   exact ⟨y, List.mem_of_getElem? (show (l.take k)[j]? = some y by rw [List.getElem?_take, if_pos hjk]; exact hj), hy⟩
  ·rw [decide_eq_false (by omega)]
   symm
   rw [List.any_eq_false]
   intro z hz
   have hz' : z ∈ l.take j := by
    have e : l.take k = (l.take j).take k := by rw [List.take_take, Nat.min_eq_left (by omega)]
    rw [e] at hz
    exact List.mem_of_mem_take hz
   simp [hno z hz']
theorem y1h.find {α : Type} {p : α → Bool} {l : List α} {i : Int} (h : y1h p l i) : (i = -1 ∧ l.find? p = none) ∨ ∃ (k : Nat) (x : α), i = (k : Int) ∧ k < l.length ∧ l[k]? = some x ∧ l.find? p = some x := by
 rcases h with ⟨rfl, h⟩ | ⟨j, y, rfl, hj, hy, hno⟩
 ·exact .inl ⟨rfl, by rw [List.find?_eq_none]; intro x hx; simp [h x hx]⟩
 ·refine .inr ⟨j, y, rfl, (List.getElem?_eq_some_iff.1 hj).1, hj, ?_⟩
  have hs : l = (l.take j ++ [y]) ++ l.drop (j + 1) := by rw [← Pure.take_snoc l j y hj, List.take_append_drop]
  have h0 : (l.take j).find? p = none := by
   rw [List.find?_eq_none]
   intro x hx
   simp [hno x hx]
  rw [hs, List.find?_append, List.find?_append, h0]
  simp [hy]
theorem y2n (F : Nat → Prop) (x : Value) (ps : List (Value × Pure.Opt)) (n : Nat) (cap : Value) (p : Pure.Opt → Bool) (w : World) (hx : ORow w F x ps) (hn : ∀ args w, Sem.run Try.prog (callFunc n args) w = .ok (.enter n args) w)
  (hf : ∀ q ∈ ps, ∀ w', Keeps y02 w w' → Calls Try.prog n #[optV q, cap] w' fun e w'' => e = .returned (.bool (p q.2)) ∧ Keeps y02 w' w'') :
  Calls Try.prog 50 #[x, .func (.func n) #[] #[cap]] w fun e w' => Placed w e w' p (y01 ps) := by
 obtain ⟨A, cA, rfl, hc⟩ := hx.form
 have hm := hx.out.2.1
 unfold maxLen at hm
 have HX := xhd hx
 have HF := xhd hf
 clear hx hf
 go_enter Try.func50, Try.ntmps50
 go_wp2_with fail
 go_loopw [8] (fun i wr => ∃ k : Nat, k ≤ ps.length ∧ i = .int .i64 (k : Int) ∧ (∀ y ∈ (y01 ps).take k, p y = false) ∧ Keeps y02 w wr) (fun i _ => ps.length - (intOf i).toNat)
 case atStart => exact ⟨0, by omega, rfl, by simp, Keeps.refl _ _⟩
 case round =>
  obtain ⟨k, hk, rfl, hT, hK⟩ := hrel
  have HT := xhd hT
  have HK := xhd hK
  by_cases hkl : k < ps.length
  ·have i0 : (0 : Int) ≤ (k : Int) := by omega
   have i1 : (k : Int) < (ps.length : Int) := by omega
   obtain ⟨b, o, A1, c1, s, la, rfl, hFp, x0, x1, hra, hpa⟩ := (HX.out.keeps hK (fun _ _ h => h)).pick k hkl
   have HC := xhd (HF.out _ (List.mem_of_getElem? hpa) wr hK)
   have HPA := xhd (show (y01 ps)[k]? = some (s, la) by rw [List.getElem?_map, hpa]; rfl)
   obtain ⟨r, hr⟩ : ∃ r, r = p (s, la) := ⟨_, rfl⟩
   have HC := xhd (hr ▸ HC.out)
   have HR := xhd hr
   clear hT hK hra hpa hr
   go_wp2_with fail
   refine HC.out.mono ?_
   rintro e w1 ⟨rfl, hk1⟩
   have HK1 := xhd (HK.out.trans hk1)
   clear HC hk1 x0 x1
   cases r
   ·have HT2 := xhd (show ∀ y ∈ (y01 ps).take (k + 1), p y = false by
     rw [Pure.take_snoc _ k _ HPA.out]
     intro y hy
     rcases List.mem_append.1 hy with hy | hy
     ·exact HT.out y hy
     ·rw [List.mem_singleton.1 hy]; exact HR.out.symm)
    clear HT
    go_wp2_with fail
    go_roundw
    case rel => exact ⟨k + 1, by omega, by go_num, HT2.out, HK1.out⟩
    case measure => simp [intOf]; omega
   ·go_wp2_with fail
    go_ret
    exact ⟨_, rfl, .inr ⟨k, (s, la), rfl, HPA.out, HR.out.symm, HT.out⟩, HK1.out⟩
  ·have hkk : k = ps.length := by omega
   have HN := xhd (show ∀ y ∈ y01 ps, p y = false by
    have h := HT.out
    rwa [List.take_of_length_le (by simp; omega)] at h)
   subst hkk
   clear hkl hk hT HT hK
   go_wp2
   go_ret
   exact ⟨_, rfl, .inl ⟨rfl, HN.out⟩, HK.out⟩
end Go.Proofs.Ytgphfindolaljaa
