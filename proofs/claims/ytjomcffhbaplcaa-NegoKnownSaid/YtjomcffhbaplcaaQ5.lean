/- What chapter 13 says of rules, of judging options and of changing a request. Nothing of the program. -/
import Derived.Test.YtjomcffhbaplcaaQ2
import Derived.WalkKit
namespace Go.Proofs.Ytjomcffhbaplcaa
namespace Pure
structure Rule where
  type : Int
  len : Int
  how : Int
  lo : Int
  hi : Int
  want : List UInt8
  need : Bool
/-- The number in bytes, the highest first. -/
def bnum (b : List UInt8) : Nat := b.foldl (fun n x => n * 256 + x.toNat) 0
/-- A number in so many bytes. -/
def wide (x n : Nat) : List UInt8 := (List.range n).map fun i => UInt8.ofNat (x / 256 ^ (n - 1 - i) % 256)
/-- May a number lie in these bytes, by the rule? -/
def Rule.numbered (r : Rule) (b : List UInt8) : Prop := 1 ≤ r.len ∧ r.len ≤ 4 ∧ (b.length : Int) = r.len
instance (r : Rule) (b : List UInt8) : Decidable (r.numbered b) := by unfold Rule.numbered; infer_instance
def Rule.fits (r : Rule) (b : List UInt8) : Prop :=
  (r.how = 1 ∧ (r.len < 0 ∨ (b.length : Int) = r.len)) ∨ (r.how = 2 ∧ r.numbered b ∧ r.lo ≤ bnum b ∧ bnum b ≤ r.hi) ∨ (r.how = 3 ∧ b = r.want) ∨ (r.how = 4 ∧ r.numbered b ∧ bnum b &&& r.hi.toNat = bnum b)
instance (r : Rule) (b : List UInt8) : Decidable (r.fits b) := by unfold Rule.fits; infer_instance
/-- What a rule offers in the place of bytes that do not fit. -/
def Rule.offers (r : Rule) (b : List UInt8) : Option Opt :=
  if r.how = 2 ∧ 1 ≤ r.len ∧ r.len ≤ 4 then some (r.type, wide (if r.numbered b ∧ (bnum b : Int) < r.lo then r.lo.toNat else r.hi.toNat) r.len.toNat)
  else if r.how = 3 then some (r.type, r.want)
  else if r.how = 4 ∧ 1 ≤ r.len ∧ r.len ≤ 4 then some (r.type, wide (if r.numbered b then bnum b &&& r.hi.toNat else r.hi.toNat) r.len.toNat)
  else none
def ruleOf (rules : List Rule) (t : Int) : Option Rule := rules.find? fun r => decide (r.type = t)
def hasType (l : List Opt) (t : Int) : Bool := l.any fun o => decide (o.1 = t)
/-- What becomes of an option: it passes, is rejected, or another one is offered. -/
inductive Verdict where
  | pass
  | reject
  | offer (o : Opt)
def verdict (rules : List Rule) (rejects : Bool) (before : List Opt) (o : Opt) : Verdict :=
  match ruleOf rules o.1 with
  | none => .reject
  | some r =>
    if hasType before o.1 = true then .reject
    else if r.fits o.2 then .pass
    else match r.offers o.2 with
      | none => .reject
      | some p => if rejects = true then .reject else .offer p
/-- Behind the first k options: those that are rejected, those that are offered. -/
def judgeTo (rules : List Rule) (rejects : Bool) (l : List Opt) : Nat → List Opt × List Opt
  | 0 => ([], [])
  | k + 1 =>
    match l[k]? with
    | none => judgeTo rules rejects l k
    | some o =>
      match verdict rules rejects (l.take k) o with
      | .pass => judgeTo rules rejects l k
      | .reject => ((judgeTo rules rejects l k).1 ++ [o], (judgeTo rules rejects l k).2)
      | .offer p => ((judgeTo rules rejects l k).1, (judgeTo rules rejects l k).2 ++ [p])
/-- Behind the first k rules: what is offered, and what is needed. -/
def needTo (rules : List Rule) (l nak : List Opt) : Nat → List Opt
  | 0 => nak
  | k + 1 =>
    match rules[k]? with
    | none => needTo rules l nak k
    | some r =>
      if r.need = false ∨ hasType l r.type = true ∨ hasType (needTo rules l nak k) r.type = true then needTo rules l nak k
      else match ruleOf rules r.type with
        | none => needTo rules l nak k
        | some f => if f.need = false then needTo rules l nak k else match f.offers [] with
          | none => needTo rules l nak k
          | some o => needTo rules l nak k ++ [o]
/-- The code of the answer (2: Ack, 3: Nak, 4: Reject) and its options. -/
def judge (rules : List Rule) (l : List Opt) (rejects : Bool) : Nat × List Opt :=
  if (judgeTo rules rejects l l.length).1 ≠ [] then (4, (judgeTo rules rejects l l.length).1)
  else
    let nak := if rejects = true then (judgeTo rules rejects l l.length).2 else needTo rules l (judgeTo rules rejects l l.length).2 rules.length
    if nak ≠ [] then (3, nak) else (2, l)
/-- An option of a request behind a Nak. -/
def nakedOne (rules : List Rule) (nak : List Opt) (o : Opt) : Opt :=
  match nak.find? (fun p => decide (p.1 = o.1)) with
  | none => o
  | some p =>
    match ruleOf rules o.1 with
    | none => o
    | some r =>
      if r.how = 1 then (o.1, p.2)
      else if r.how = 2 ∧ r.numbered p.2 then (o.1, wide (min (max (bnum p.2) r.lo.toNat) r.hi.toNat) r.len.toNat)
      else if r.how = 4 ∧ r.numbered p.2 then (o.1, wide (bnum p.2 &&& r.hi.toNat) r.len.toNat)
      else o
def naked (rules : List Rule) (ask nak : List Opt) : List Opt := ask.map (nakedOne rules nak)
/-- Is a type needed, by its rule? -/
def needy (rules : List Rule) (t : Int) : Bool := match ruleOf rules t with | some r => r.need | none => false
/-- Does an option of a request stay behind a Reject? -/
def stays (rules : List Rule) (rej : List Opt) (o : Opt) : Bool := !rej.any (fun p => decide (o = p)) || needy rules o.1
def left (rules : List Rule) (ask rej : List Opt) : List Opt := ask.filter (stays rules rej)
/-- What the statements ask of rules. -/
structure Rule.May (r : Rule) : Prop where
  t0 : 0 ≤ r.type
  t1 : r.type ≤ 255
  want : r.want.length ≤ 253
  nums : 1 ≤ r.len → r.len ≤ 4 → 0 ≤ r.lo ∧ r.lo ≤ r.hi ∧ r.hi < (256 : Int) ^ r.len.toNat
theorem bnum_snoc (b : List UInt8) (x : UInt8) : bnum (b ++ [x]) = bnum b * 256 + x.toNat := by simp [bnum, List.foldl_append]
theorem bnum_from (b : List UInt8) : ∀ n : Nat, b.foldl (fun n x => n * 256 + x.toNat) n < (n + 1) * 256 ^ b.length := by
  induction b with
  | nil => intro n; simp
  | cons x b ih =>
    intro n
    rw [List.foldl_cons, List.length_cons, Nat.pow_succ]
    have hx := x.toNat_lt
    have h1 := ih (n * 256 + x.toNat)
    have h2 : (n * 256 + x.toNat + 1) * 256 ^ b.length ≤ ((n + 1) * 256) * 256 ^ b.length := Nat.mul_le_mul_right _ (by omega)
    have h3 : ((n + 1) * 256) * 256 ^ b.length = (n + 1) * (256 ^ b.length * 256) := by rw [Nat.mul_assoc, Nat.mul_comm 256]
    omega
theorem bnum_lt (b : List UInt8) : bnum b < 256 ^ b.length := by have := bnum_from b 0; rw [Nat.zero_add, Nat.one_mul] at this; exact this
theorem bnum_small {b : List UInt8} (h : b.length ≤ 4) : bnum b < 4294967296 :=
  Nat.lt_of_lt_of_le (bnum_lt b) (show 256 ^ b.length ≤ 256 ^ 4 from Nat.pow_le_pow_right (by omega) h)
theorem wide_length (x n : Nat) : (wide x n).length = n := by simp [wide]
/-- A number as bytes, and back. -/
theorem bnum_map (x : Nat) : ∀ n, bnum ((List.range n).map fun i => UInt8.ofNat (x / 256 ^ (n - 1 - i) % 256)) = x % 256 ^ n
  | 0 => by simp [bnum, Nat.mod_one]
  | n + 1 => by
    rw [List.range_succ, List.map_append, List.map_cons, List.map_nil, bnum_snoc]
    have e : ((List.range n).map fun i => UInt8.ofNat (x / 256 ^ (n + 1 - 1 - i) % 256)) = (List.range n).map fun i => UInt8.ofNat ((x / 256) / 256 ^ (n - 1 - i) % 256) := by
      apply List.map_congr_left
      intro i hi
      have hi : i < n := List.mem_range.1 hi
      rw [Nat.div_div_eq_div_mul, show n + 1 - 1 - i = (n - 1 - i) + 1 by omega, Nat.pow_succ, Nat.mul_comm]
    rw [e, bnum_map (x / 256) n]
    simp only [Nat.add_sub_cancel, Nat.sub_self, Nat.pow_zero, Nat.div_one]
    rw [show (UInt8.ofNat (x % 256)).toNat = x % 256 by simp, Nat.pow_succ, Nat.mul_comm (256 ^ n) 256, Nat.mod_mul]
    omega
theorem bnum_wide {x n : Nat} (h : x < 256 ^ n) : bnum (wide x n) = x := (bnum_map x n).trans (Nat.mod_eq_of_lt h)
end Pure
end Go.Proofs.Ytjomcffhbaplcaa
/- What chapter 12 says of the automaton and its machine. Nothing of the program. -/
namespace Go.Proofs.Ytjomcffhbaplcaa
namespace Pure
/-- The table: a row for each event, an entry for each state: the actions, and the next state. -/
def fsmRows : List (List (List Nat × Nat)) := [
  [([], 2), ([4, 6], 6), ([], 2), ([], 3), ([], 4), ([], 5), ([], 6), ([], 7), ([], 8), ([], 9)],
  [([], 0), ([], 1), ([], 0), ([2], 1), ([], 0), ([], 1), ([], 1), ([], 1), ([], 1), ([1], 1)],
  [([2], 1), ([], 1), ([4, 6], 6), ([], 3), ([], 5), ([], 5), ([], 6), ([], 7), ([], 8), ([], 9)],
  [([], 0), ([3], 0), ([], 2), ([], 2), ([], 4), ([], 4), ([4, 9], 4), ([4, 9], 4), ([4, 9], 4), ([1, 4, 9], 4)],
  [([], 0), ([], 1), ([], 2), ([], 3), ([9], 4), ([9], 5), ([6], 6), ([6], 6), ([6], 8), ([], 9)],
  [([], 0), ([], 1), ([], 2), ([], 3), ([3], 2), ([3], 3), ([3], 3), ([3], 3), ([3], 3), ([], 9)],
  [([], 0), ([], 1), ([10], 2), ([4, 6, 7], 8), ([], 4), ([], 5), ([7], 8), ([7, 0], 9), ([7], 8), ([1, 6, 7], 8)],
  [([], 0), ([], 1), ([10], 2), ([4, 6, 8], 6), ([], 4), ([], 5), ([8], 6), ([8], 7), ([8], 6), ([1, 6, 8], 6)],
  [([], 0), ([], 1), ([10], 2), ([10], 3), ([], 4), ([], 5), ([4], 7), ([6], 6), ([4, 0], 9), ([1, 6], 6)],
  [([], 0), ([], 1), ([10], 2), ([10], 3), ([], 4), ([], 5), ([4, 6], 6), ([6], 6), ([4, 6], 8), ([1, 6], 6)],
  [([], 0), ([], 1), ([10], 2), ([10], 3), ([10], 4), ([10], 5), ([10], 6), ([10], 6), ([10], 6), ([1, 5, 10], 5)],
  [([], 0), ([], 1), ([], 2), ([], 3), ([3], 2), ([3], 3), ([], 6), ([], 6), ([], 8), ([1, 6], 6)],
  [([], 0), ([], 1), ([11], 2), ([11], 3), ([11], 4), ([11], 5), ([11], 6), ([11], 7), ([11], 8), ([11], 9)],
  [([], 0), ([], 1), ([], 2), ([], 3), ([], 4), ([], 5), ([], 6), ([], 6), ([], 8), ([], 9)],
  [([], 0), ([], 1), ([3], 2), ([3], 3), ([3], 2), ([3], 3), ([3], 3), ([3], 3), ([3], 3), ([1, 4, 9], 5)],
  [([], 0), ([], 1), ([], 2), ([], 3), ([], 4), ([], 5), ([], 6), ([], 7), ([], 8), ([12], 9)]]
def fsmAt (s e : Nat) : List Nat × Nat := (fsmRows.getD e []).getD s ([], s)
/-- Step, of any numbers. -/
def fsmStep (s e : Int) : List Nat × Int := if 0 ≤ s ∧ s ≤ 9 ∧ 0 ≤ e ∧ e < 16 then ((fsmAt s.toNat e.toNat).1, ((fsmAt s.toNat e.toNat).2 : Int)) else ([], s)
/-- A machine. -/
structure Mach where
  state : Nat
  count : Nat
  left : Nat
  tries : Nat
  timeout : Nat
deriving DecidableEq
def Mach.act (m : Mach) (a : Nat) : Mach :=
  if a = 4 then { m with count := m.tries } else if a = 5 then { m with count := 0, left := m.timeout } else if a = 6 ∨ a = 9 then { m with count := m.count - 1, left := m.timeout } else m
/-- The timer does not run in all states. -/
def Mach.rest (m : Mach) : Mach := if m.state < 4 ∨ m.state = 9 then { m with left := 0 } else m
def Mach.step (m : Mach) (e : Nat) : List Nat × Mach := ((fsmAt m.state e).1, ((fsmAt m.state e).1.foldl Mach.act { m with state := (fsmAt m.state e).2 }).rest)
/-- Is the number an event that Do performs? -/
def does (e : Int) : Prop := 0 ≤ e ∧ e < 16 ∧ e ≠ 4 ∧ e ≠ 5
instance (e : Int) : Decidable (does e) := by unfold does; infer_instance
def Mach.act2 (m : Mach) (e : Int) : List Nat × Mach := if does e then m.step e.toNat else ([], m)
def Mach.tick (m : Mach) : List Nat × Mach :=
  if m.left = 0 then ([], m) else if 1 < m.left then ([], { m with left := m.left - 1 }) else if 0 < m.count then { m with left := 0 }.step 4 else { m with left := 0 }.step 5
/-- A call: -2 is a tick, any other number an event. -/
def Mach.call (m : Mach) (x : Int) : List Nat × Mach := if x = -2 then m.tick else m.act2 x
def newMach (tries timeout : Nat) : Mach := ⟨0, 0, 0, tries, timeout⟩
theorem fsmAt_le : ∀ s < 10, ∀ e < 16, (fsmAt s e).2 ≤ 9 ∧ ∀ a ∈ (fsmAt s e).1, a ≤ 12 := by decide +kernel
/-- What holds of every machine. -/
structure Mach.Good (m : Mach) : Prop where
  state : m.state ≤ 9
  tries : 1 ≤ m.tries
  timeout : 1 ≤ m.timeout
  count : m.count ≤ m.tries
  left : m.left ≤ m.timeout
  rest : m.state < 4 ∨ m.state = 9 → m.left = 0
  runs : 4 ≤ m.state → m.state ≤ 8 → 0 < m.left
theorem newMach_good {t u : Nat} (ht : 1 ≤ t) (hu : 1 ≤ u) : (newMach t u).Good := ⟨by simp [newMach], ht, hu, by simp [newMach], by simp [newMach], fun _ => rfl, fun h => by simp [newMach] at h⟩
theorem act_keeps (l : List Nat) : ∀ (m : Mach), (l.foldl Mach.act m).state = m.state ∧ (l.foldl Mach.act m).tries = m.tries ∧ (l.foldl Mach.act m).timeout = m.timeout ∧
    (m.count ≤ m.tries → (l.foldl Mach.act m).count ≤ m.tries) ∧ (m.left ≤ m.timeout → (l.foldl Mach.act m).left ≤ m.timeout) ∧ (m.left = m.timeout → (l.foldl Mach.act m).left = m.timeout) := by
  induction l with
  | nil => intro m; exact ⟨rfl, rfl, rfl, id, id, id⟩
  | cons a l ih =>
    intro m
    rw [List.foldl_cons]
    obtain ⟨h1, h2, h3, h4, h5, h6⟩ := ih (m.act a)
    have k : (m.act a).state = m.state ∧ (m.act a).tries = m.tries ∧ (m.act a).timeout = m.timeout ∧ (m.count ≤ m.tries → (m.act a).count ≤ m.tries) ∧ (m.left ≤ m.timeout → (m.act a).left ≤ m.timeout) ∧ (m.left = m.timeout → (m.act a).left = m.timeout) := by
      unfold Mach.act
      split
      · exact ⟨rfl, rfl, rfl, fun _ => Nat.le_refl _, id, id⟩
      · split
        · exact ⟨rfl, rfl, rfl, fun _ => Nat.zero_le _, fun _ => Nat.le_refl _, fun _ => rfl⟩
        · split
          · exact ⟨rfl, rfl, rfl, fun h => by show m.count - 1 ≤ m.tries; omega, fun _ => Nat.le_refl _, fun _ => rfl⟩
          · exact ⟨rfl, rfl, rfl, id, id, id⟩
    obtain ⟨k1, k2, k3, k4, k5, k6⟩ := k
    rw [k2] at h2 h4
    rw [k3] at h3 h5 h6
    exact ⟨h1.trans k1, h2, h3, fun h => h4 (k4 h), fun h => h5 (k5 h), fun h => h6 (k6 h)⟩
/-- Does an action start the timer? -/
def starts (l : List Nat) : Bool := l.any fun a => a == 5 || a == 6 || a == 9
theorem act_starts (l : List Nat) : ∀ (m : Mach), starts l = true → (l.foldl Mach.act m).left = m.timeout := by
  induction l with
  | nil => intro m h; cases h
  | cons a l ih =>
    intro m h
    rw [List.foldl_cons]
    by_cases ha : a = 5 ∨ a = 6 ∨ a = 9
    · have k : (m.act a).left = m.timeout ∧ (m.act a).timeout = m.timeout := by
        rcases ha with rfl | rfl | rfl <;> exact ⟨rfl, rfl⟩
      have := (act_keeps l (m.act a)).2.2.2.2.2 (by rw [k.1, k.2])
      rw [this, k.2]
    · have hl : starts l = true := by
        have : (a == 5 || a == 6 || a == 9) = false := by
          rw [Bool.eq_false_iff]; intro h; simp at h; omega
        simpa [starts, this] using h
      rw [ih (m.act a) hl]
      unfold Mach.act
      split
      · rfl
      · split
        · rfl
        · split <;> rfl
theorem fsm_runs' : ∀ s < 10, ∀ e < 16, (fsmAt s e).2 < 4 ∨ 8 < (fsmAt s e).2 ∨ starts (fsmAt s e).1 = true ∨ (4 ≤ s ∧ s ≤ 8 ∧ e ≠ 4 ∧ e ≠ 5) := by decide +kernel
theorem fsm_runs (s : Nat) (hs : s < 10) (e : Nat) (he : e < 16) (h1 : 4 ≤ (fsmAt s e).2) (h2 : (fsmAt s e).2 ≤ 8) : starts (fsmAt s e).1 = true ∨ (4 ≤ s ∧ s ≤ 8 ∧ e ≠ 4 ∧ e ≠ 5) := by
  rcases fsm_runs' s hs e he with h | h | h
  · omega
  · omega
  · exact h
theorem rest_eq (m : Mach) : m.rest.state = m.state ∧ m.rest.count = m.count ∧ m.rest.tries = m.tries ∧ m.rest.timeout = m.timeout ∧ (m.rest.left = m.left ∨ m.rest.left = 0) := by
  unfold Mach.rest
  split
  · exact ⟨rfl, rfl, rfl, rfl, .inr rfl⟩
  · exact ⟨rfl, rfl, rfl, rfl, .inl rfl⟩
/-- A step of a machine whose timer runs as it should, or that is expired. -/
theorem step_good {m : Mach} {e : Nat} (he : e < 16) (hs : m.state ≤ 9) (ht : 1 ≤ m.tries) (hu : 1 ≤ m.timeout) (hc : m.count ≤ m.tries) (hl : m.left ≤ m.timeout) (hr : e ≠ 4 → e ≠ 5 → 4 ≤ m.state → m.state ≤ 8 → 0 < m.left) :
    (m.step e).2.Good ∧ (m.step e).2.state = (fsmAt m.state e).2 ∧ (m.step e).2.tries = m.tries ∧ (m.step e).2.timeout = m.timeout := by
  obtain ⟨k1, k2, k3, k4, k5, k6⟩ := act_keeps (fsmAt m.state e).1 { m with state := (fsmAt m.state e).2 }
  obtain ⟨r1, r2, r3, r4, r5⟩ := rest_eq ((fsmAt m.state e).1.foldl Mach.act { m with state := (fsmAt m.state e).2 })
  have hst : (m.step e).2.state = (fsmAt m.state e).2 := r1.trans k1
  refine ⟨⟨?_, ?_, ?_, ?_, ?_, ?_, ?_⟩, hst, r3.trans k2, r4.trans k3⟩
  · rw [hst]; exact (fsmAt_le m.state (by omega) e he).1
  · rw [show (m.step e).2.tries = m.tries from r3.trans k2]; exact ht
  · rw [show (m.step e).2.timeout = m.timeout from r4.trans k3]; exact hu
  · rw [show (m.step e).2.count = _ from r2, show (m.step e).2.tries = m.tries from r3.trans k2]; exact k4 hc
  · rw [show (m.step e).2.timeout = m.timeout from r4.trans k3]
    rcases r5 with h | h
    · rw [show (m.step e).2.left = _ from h]; exact k5 hl
    · rw [show (m.step e).2.left = _ from h]; omega
  · intro h
    rw [hst] at h
    show (Mach.rest _).left = 0
    unfold Mach.rest
    rw [k1]
    rw [if_pos h]
  · intro h1 h2
    rw [hst] at h1 h2
    show 0 < (Mach.rest _).left
    unfold Mach.rest
    rw [k1]
    rw [if_neg (show ¬ ((fsmAt m.state e).2 < 4 ∨ (fsmAt m.state e).2 = 9) by omega)]
    rcases fsm_runs m.state (by omega) e he h1 h2 with h | ⟨h3, h4, h5, h6⟩
    · rw [act_starts _ _ h]; exact hu
    · by_cases hst : starts (fsmAt m.state e).1 = true
      · rw [act_starts _ _ hst]; exact hu
      · have hno : ∀ (l : List Nat) (m : Mach), starts l = false → (l.foldl Mach.act m).left = m.left := by
          intro l
          induction l with
          | nil => intro m _; rfl
          | cons a l ih =>
            intro m h
            simp [starts] at h
            rw [List.foldl_cons, ih _ (by simp [starts]; exact h.2)]
            unfold Mach.act
            split
            · rfl
            · rw [if_neg (by omega), if_neg (by omega)]
        rw [hno _ _ (by simpa using hst)]
        exact hr h5 h6 h3 h4
theorem act2_good {m : Mach} (h : m.Good) (e : Int) : (m.act2 e).2.Good ∧ (m.act2 e).2.tries = m.tries ∧ (m.act2 e).2.timeout = m.timeout := by
  unfold Mach.act2
  split
  · rename_i hd
    unfold does at hd
    obtain ⟨g, _, a, b⟩ := step_good (m := m) (e := e.toNat) (by omega) h.state h.tries h.timeout h.count h.left (fun _ _ => h.runs)
    exact ⟨g, a, b⟩
  · exact ⟨h, rfl, rfl⟩
theorem tick_good {m : Mach} (h : m.Good) : m.tick.2.Good ∧ m.tick.2.tries = m.tries ∧ m.tick.2.timeout = m.timeout := by
  unfold Mach.tick
  split
  · exact ⟨h, rfl, rfl⟩
  · rename_i h0
    split
    · rename_i h1
      refine ⟨⟨h.state, h.tries, h.timeout, h.count, ?_, ?_, ?_⟩, rfl, rfl⟩
      · show m.left - 1 ≤ m.timeout; have := h.left; omega
      · intro hs; have := h.rest hs; omega
      · intro _ _; show 0 < m.left - 1; omega
    · split
      · obtain ⟨g, _, a, b⟩ := step_good (m := { m with left := 0 }) (e := 4) (by omega) h.state h.tries h.timeout h.count (Nat.zero_le _) (fun h => absurd rfl h)
        exact ⟨g, a, b⟩
      · obtain ⟨g, _, a, b⟩ := step_good (m := { m with left := 0 }) (e := 5) (by omega) h.state h.tries h.timeout h.count (Nat.zero_le _) (fun _ h => absurd rfl h)
        exact ⟨g, a, b⟩
theorem call_good {m : Mach} (h : m.Good) (x : Int) : (m.call x).2.Good ∧ (m.call x).2.tries = m.tries ∧ (m.call x).2.timeout = m.timeout := by
  unfold Mach.call
  split
  · exact tick_good h
  · exact act2_good h x
end Pure
end Go.Proofs.Ytjomcffhbaplcaa
/- What follows for the automaton and its machine. Nothing of the program. -/
namespace Go.Proofs.Ytjomcffhbaplcaa
namespace Pure
/-- So many ticks are left, at most. -/
def Mach.pot (m : Mach) : Nat := m.count * m.timeout + m.left
/-- How many of a list are so. -/
def many (f : Nat → Bool) (l : List Nat) : Nat := (l.filter f).length
def asks (l : List Nat) : Nat := many (fun a => a == 6 || a == 9) l
theorem fsm_time : ∀ s < 10, (s < 4 ∨ s = 9 ∨ (((fsmAt s 4).1 = [6] ∨ (fsmAt s 4).1 = [9]) ∧ 4 ≤ (fsmAt s 4).2 ∧ (fsmAt s 4).2 ≤ 8 ∧ (fsmAt s 5).1 = [3] ∧ (fsmAt s 5).2 < 4)) := by decide +kernel
/-- What a tick of a running timer comes to. -/
theorem tick_ways {m : Mach} (h : m.Good) (hl : 0 < m.left) :
    (1 < m.left ∧ m.tick = ([], { m with left := m.left - 1 })) ∨
    (m.left = 1 ∧ 0 < m.count ∧ ∃ a n, (a = 6 ∨ a = 9) ∧ 4 ≤ n ∧ n ≤ 8 ∧ fsmAt m.state 4 = ([a], n) ∧ m.tick = ([a], ⟨n, m.count - 1, m.timeout, m.tries, m.timeout⟩)) ∨
    (m.left = 1 ∧ m.count = 0 ∧ ∃ n, n < 4 ∧ fsmAt m.state 5 = ([3], n) ∧ m.tick = ([3], ⟨n, 0, 0, m.tries, m.timeout⟩)) := by
  have hs : 4 ≤ m.state ∧ m.state ≤ 8 := by
    have h1 := h.rest
    have h2 := h.state
    by_cases h3 : m.state < 4 ∨ m.state = 9
    · have := h1 h3; omega
    · omega
  rcases fsm_time m.state (by omega) with h1 | h1 | ⟨h1, h2, h3, h4, h5⟩
  · omega
  · omega
  · by_cases h6 : 1 < m.left
    · refine .inl ⟨h6, ?_⟩
      unfold Mach.tick
      rw [if_neg (by omega), if_pos h6]
    · have h7 : m.left = 1 := by omega
      refine .inr ?_
      obtain ⟨s, c, lf, t, u⟩ := m
      dsimp only at *
      subst h7
      by_cases h8 : 0 < c
      · refine .inl ⟨rfl, h8, ?_⟩
        obtain ⟨n, hn⟩ : ∃ n, n = (fsmAt s 4).2 := ⟨_, rfl⟩
        rw [← hn] at h2 h3
        have hb : ∀ a, (a = 6 ∨ a = 9) → (fsmAt s 4).1 = [a] → Mach.tick ⟨s, c, 1, t, u⟩ = ([a], ⟨n, c - 1, u, t, u⟩) := by
          intro a ha he
          unfold Mach.tick
          rw [if_neg (by simp), if_neg (by simp), if_pos h8]
          unfold Mach.step
          dsimp only
          rw [he, ← hn]
          have hact : List.foldl Mach.act ⟨n, c, 0, t, u⟩ [a] = ⟨n, c - 1, u, t, u⟩ := by
            rcases ha with rfl | rfl <;> rfl
          rw [hact]
          unfold Mach.rest
          rw [if_neg (by dsimp only; omega)]
        rcases h1 with h1 | h1
        · exact ⟨6, n, .inl rfl, h2, h3, by rw [← h1, hn], hb 6 (.inl rfl) h1⟩
        · exact ⟨9, n, .inr rfl, h2, h3, by rw [← h1, hn], hb 9 (.inr rfl) h1⟩
      · have hc0 : c = 0 := by omega
        subst hc0
        refine .inr ⟨rfl, rfl, (fsmAt s 5).2, h5, by rw [← h4], ?_⟩
        unfold Mach.tick
        rw [if_neg (by simp), if_neg (by simp), if_neg (by simp)]
        unfold Mach.step
        dsimp only
        rw [h4]
        have hact : List.foldl Mach.act ⟨(fsmAt s 5).2, 0, 0, t, u⟩ [3] = ⟨(fsmAt s 5).2, 0, 0, t, u⟩ := rfl
        rw [hact]
        unfold Mach.rest
        rw [if_pos (.inl h5)]
theorem tick_stops {m : Mach} (hl : m.left = 0) : m.tick = ([], m) := by unfold Mach.tick; rw [if_pos hl]
theorem tick_pot {m : Mach} (h : m.Good) (hl : 0 < m.left) : m.tick.2.pot + 1 ≤ m.pot := by
  rcases tick_ways h hl with ⟨h1, h2⟩ | ⟨h1, h2, a, n, _, _, _, _, h3⟩ | ⟨h1, h2, n, _, _, h3⟩
  · rw [h2]; unfold Mach.pot; dsimp only; omega
  · rw [h3]; unfold Mach.pot; dsimp only
    obtain ⟨c, hc⟩ : ∃ c, m.count = c + 1 := ⟨m.count - 1, by omega⟩
    rw [hc, h1, Nat.add_sub_cancel, Nat.succ_mul]
    exact Nat.le_refl _
  · rw [h3]; unfold Mach.pot; dsimp only; rw [h1, h2]; simp
theorem pot_le {m : Mach} (h : m.Good) : m.pot ≤ (m.tries + 1) * m.timeout := by
  unfold Mach.pot
  have h1 := Nat.mul_le_mul_right m.timeout h.count
  have h2 := h.left
  rw [Nat.succ_mul]
  omega
theorem stopped {m : Mach} (h : m.Good) (hl : m.left = 0) : m.state ≤ 3 ∨ m.state = 9 := by
  have h1 := h.runs
  have h2 := h.state
  by_cases h3 : 4 ≤ m.state ∧ m.state ≤ 8
  · have := h1 h3.1 h3.2; omega
  · omega
theorem pot_zero {m : Mach} (h : m.pot = 0) : m.left = 0 := by unfold Mach.pot at h; omega
/-- A tick asks once at most, and pays for it. -/
theorem tick_asks {m : Mach} (h : m.Good) (hl : 0 < m.left) : asks m.tick.1 + m.tick.2.count ≤ m.count := by
  rcases tick_ways h hl with ⟨h1, h2⟩ | ⟨h1, h2, a, n, ha, _, _, _, h3⟩ | ⟨h1, h2, n, _, _, h3⟩
  · rw [h2]; simp [asks, many]
  · rw [h3]
    have : asks [a] = 1 := by rcases ha with rfl | rfl <;> rfl
    rw [this]; dsimp only; omega
  · rw [h3]
    have : asks [3] = 0 := rfl
    rw [this]; simp
/-- Of every state and event. -/
def entryOk (s e : Nat) : Bool := decide ((fsmAt s e).2 ≤ 9) && (fsmAt s e).1.all fun a => decide (a ≤ 12) && !(a == 1 && s != 9) && !(a == 0 && (s == 9 || (fsmAt s e).2 != 9)) && !(a == 12 && s != 9) && !(a == 6 && decide ((fsmAt s e).2 < 6)) && !(a == 9 && (fsmAt s e).2 != 4 && (fsmAt s e).2 != 5)
theorem entries_ok : ∀ s < 10, ∀ e < 16, entryOk s e = true := by decide +kernel
/-- A layer goes up, and down, just when it should. -/
theorem layers_at : ∀ s < 10, ∀ e < 16, many (· == 0) (fsmAt s e).1 = (if (fsmAt s e).2 = 9 ∧ s ≠ 9 then 1 else 0) ∧ many (· == 1) (fsmAt s e).1 = (if s = 9 ∧ (fsmAt s e).2 ≠ 9 then 1 else 0) := by decide +kernel
theorem layers_call {m : Mach} (h : m.Good) (x : Int) : many (· == 0) (m.call x).1 = (if (m.call x).2.state = 9 ∧ m.state ≠ 9 then 1 else 0) ∧ many (· == 1) (m.call x).1 = (if m.state = 9 ∧ (m.call x).2.state ≠ 9 then 1 else 0) := by
  have hs := h.state
  have hstep : ∀ (m' : Mach) (e : Nat), e < 16 → m'.state = m.state → (m'.step e).2.state = (fsmAt m.state e).2 ∧ (m'.step e).1 = (fsmAt m.state e).1 := by
    intro m' e he hm
    refine ⟨?_, by unfold Mach.step; rw [hm]⟩
    show (Mach.rest _).state = _
    rw [(rest_eq _).1, (act_keeps _ _).1, hm]
  have hno : many (· == 0) ([] : List Nat) = (if m.state = 9 ∧ m.state ≠ 9 then 1 else 0) ∧ many (· == 1) ([] : List Nat) = (if m.state = 9 ∧ m.state ≠ 9 then 1 else 0) := by
    rw [if_neg (fun h => h.2 h.1)]; exact ⟨rfl, rfl⟩
  unfold Mach.call
  split
  · unfold Mach.tick
    split
    · exact hno
    · split
      · exact hno
      · split
        · obtain ⟨h1, h2⟩ := hstep { m with left := 0 } 4 (by omega) rfl
          rw [h1, h2]; exact layers_at m.state (by omega) 4 (by omega)
        · obtain ⟨h1, h2⟩ := hstep { m with left := 0 } 5 (by omega) rfl
          rw [h1, h2]; exact layers_at m.state (by omega) 5 (by omega)
  · unfold Mach.act2
    split
    · rename_i hd
      unfold does at hd
      obtain ⟨h1, h2⟩ := hstep m x.toNat (by omega) rfl
      rw [h1, h2]; exact layers_at m.state (by omega) x.toNat (by omega)
    · exact hno
theorem close_at : ∀ s < 10, ((fsmAt s 3).2 = 0 ∨ (fsmAt s 3).2 = 2 ∨ (fsmAt s 3).2 = 4) ∧ (fsmAt (fsmAt s 3).2 1).2 = 0 ∧ ((fsmAt s 1).2 = 0 ∨ (fsmAt s 1).2 = 1) := by decide +kernel
theorem step_state (m : Mach) (e : Nat) : (m.step e).2.state = (fsmAt m.state e).2 := by
  show (Mach.rest _).state = _
  rw [(rest_eq _).1, (act_keeps _ _).1]
theorem act2_step {e : Nat} (he : does e) (m : Mach) : m.act2 e = m.step e := by
  unfold Mach.act2
  rw [if_pos he]
  rfl
/-- Ticks of a machine that closes. -/
theorem closing_tick {m : Mach} (h : m.Good) (hs : m.state = 0 ∨ m.state = 2 ∨ m.state = 4) : (m.tick.2.state = 0 ∨ m.tick.2.state = 2 ∨ m.tick.2.state = 4) := by
  by_cases hl : m.left = 0
  · rw [tick_stops hl]; exact hs
  · have h4 : m.state = 4 := by
      rcases hs with h1 | h1 | h1
      · have := h.rest (by omega); omega
      · have := h.rest (by omega); omega
      · exact h1
    rcases tick_ways h (by omega) with ⟨h1, h2⟩ | ⟨h1, h2, a, n, _, _, _, hf, h3⟩ | ⟨h1, h2, n, _, hf, h3⟩
    · rw [h2]; exact hs
    · rw [h3]; rw [h4] at hf
      have : n = 4 := by have := congrArg Prod.snd hf; exact this.symm
      exact .inr (.inr this)
    · rw [h3]; rw [h4] at hf
      have : n = 2 := by have := congrArg Prod.snd hf; exact this.symm
      exact .inr (.inl this)
/-- So many ticks. -/
def Mach.ticks : Nat → Mach → Mach
  | 0, m => m
  | n + 1, m => Mach.ticks n m.tick.2
end Pure
end Go.Proofs.Ytjomcffhbaplcaa
