/- What follows of chapter 13's words: rules that let all pass; two that speak to one another. -/
import Derived.Test.YtjomcffhbaplcaaQ6
namespace Go.Proofs.Ytjomcffhbaplcaa
namespace Pure
/-- The rule that takes whatever has its Type. -/
def anyRule (t : Int) : Rule := ⟨t, -1, 1, 0, 0, [], false⟩
def allRules : List Rule := (List.range 256).map fun t => anyRule (t : Nat)
def Apart (l : List Opt) : Prop := l.Pairwise fun a b => a.1 ≠ b.1
theorem ruleOf_any (ts : List Int) (t : Int) (h : t ∈ ts) : ruleOf (ts.map anyRule) t = some (anyRule t) := by
  induction ts with
  | nil => cases h
  | cons a ts ih =>
    unfold ruleOf
    rw [List.map_cons, List.find?_cons]
    by_cases ha : a = t
    · subst ha
      simp [anyRule]
    · have hd : decide ((anyRule a).type = t) = false := decide_eq_false ha
      rw [hd]
      exact ih ((List.mem_cons.1 h).resolve_left (fun e => ha e.symm))
theorem ruleOf_none (ts : List Int) (t : Int) (h : t ∉ ts) : ruleOf (ts.map anyRule) t = none := by
  unfold ruleOf
  rw [List.find?_eq_none]
  intro r hr
  obtain ⟨a, ha, rfl⟩ := List.mem_map.1 hr
  simp only [decide_eq_true_eq]
  intro e
  exact h ((show a = t from e) ▸ ha)
theorem allRules_eq : allRules = ((List.range 256).map fun t => ((t : Nat) : Int)).map anyRule := by
  unfold allRules
  rw [List.map_map]
  rfl
theorem ruleOf_all {t : Int} (h0 : 0 ≤ t) (h1 : t ≤ 255) : ruleOf allRules t = some (anyRule t) := by
  rw [allRules_eq]
  exact ruleOf_any _ t (List.mem_map.2 ⟨t.toNat, List.mem_range.2 (by omega), by omega⟩)
theorem fits_any (t : Int) (b : List UInt8) : (anyRule t).fits b := .inl ⟨rfl, .inl (by show (-1 : Int) < 0; decide)⟩
/-- No earlier option has the type of a later one. -/
theorem apart_before {l : List Opt} (h : Apart l) (k : Nat) (o : Opt) (ho : l[k]? = some o) : hasType (l.take k) o.1 = false := by
  unfold hasType
  rw [List.any_eq_false]
  intro p hp
  simp only [decide_eq_true_eq]
  intro e
  obtain ⟨j, hj, hjl⟩ := List.getElem_of_mem hp
  rw [List.length_take] at hj
  have hkl : k < l.length := (List.getElem?_eq_some_iff.1 ho).1
  have h1 : l[j]'(by omega) = p := by rw [← hjl, List.getElem_take]
  have h2 : l[k]'hkl = o := (List.getElem?_eq_some_iff.1 ho).2
  have := List.pairwise_iff_getElem.1 h j k (by omega) hkl (by omega)
  rw [h1, h2] at this
  exact this e
theorem judgeTo_pass (rules : List Rule) (rejects : Bool) (l : List Opt) (k : Nat) (h : ∀ j < k, ∀ o, l[j]? = some o → verdict rules rejects (l.take j) o = .pass) : judgeTo rules rejects l k = ([], []) := by
  induction k with
  | zero => rfl
  | succ k ih =>
    have ih' := ih (fun j hj => h j (by omega))
    unfold judgeTo
    cases hk : l[k]? with
    | none => exact ih'
    | some o =>
      dsimp only
      rw [h k (by omega) o hk]
      exact ih'
theorem needTo_none (rules : List Rule) (l nak : List Opt) (h : ∀ r ∈ rules, r.need = false) : ∀ k, needTo rules l nak k = nak
  | 0 => rfl
  | k + 1 => by
    have ih := needTo_none rules l nak h k
    unfold needTo
    cases hk : rules[k]? with
    | none => exact ih
    | some r =>
      dsimp only
      rw [if_pos (.inl (h r (List.mem_of_getElem? hk)))]
      exact ih
/-- Where all passes, and nothing is needed, the answer is an Ack. -/
theorem judge_pass (rules : List Rule) (rejects : Bool) (l : List Opt) (h : ∀ j o, l[j]? = some o → verdict rules rejects (l.take j) o = .pass) (hn : ∀ r ∈ rules, r.need = false) : judge rules l rejects = (2, l) := by
  unfold judge
  rw [judgeTo_pass rules rejects l l.length (fun j _ o => h j o), needTo_none rules l [] hn]
  simp
theorem judge_all {l : List Opt} (hl : Apart l) (ho : ∀ o ∈ l, ¬ Opt.odd o) (rejects : Bool) : judge allRules l rejects = (2, l) := by
  refine judge_pass _ _ _ (fun j o hj => ?_) (fun r hr => ?_)
  · have hodd := ho o (List.mem_of_getElem? hj)
    unfold Opt.odd at hodd
    unfold verdict
    rw [ruleOf_all (by omega) (by omega)]
    dsimp only
    rw [apart_before hl j o hj, if_neg (by decide), if_pos (fits_any _ _)]
  · rw [allRules_eq] at hr
    obtain ⟨a, _, rfl⟩ := List.mem_map.1 hr
    rfl
/-- A negotiator that asks, and that waits for its answer. -/
def begun (rules : List Rule) (ask : List Opt) (t u : Nat) : Neg := ⟨rules, ask, ask, ⟨6, t - 1, u, t, u⟩, 1, 1, 0, true, [], [], 0, (options ask).2⟩
def sends (l : List Pkt) : Said := ⟨l, false, false, false, false⟩
theorem neg_up (rules : List Rule) (ask : List Opt) (t u : Nat) : (newNeg rules ask t u).act 0 = (⟨rules, ask, ask, ⟨2, 0, 0, t, u⟩, 0, 0, 0, false, [], [], 0, []⟩, mute) := rfl
theorem neg_open (rules : List Rule) (ask : List Opt) (t u : Nat) : (⟨rules, ask, ask, ⟨2, 0, 0, t, u⟩, 0, 0, 0, false, [], [], 0, []⟩ : Neg).act 2 = (begun rules ask t u, sends [⟨1, 1, (options ask).2⟩]) := rfl
theorem act_6_6 (c l t u : Nat) : (⟨6, c, l, t, u⟩ : Mach).act2 (6 : Nat) = ([7], ⟨8, c, l, t, u⟩) := rfl
theorem act_7_6 (c l t u : Nat) : (⟨7, c, l, t, u⟩ : Mach).act2 (6 : Nat) = ([7, 0], ⟨9, c, 0, t, u⟩) := rfl
theorem act_8_8 (c l t u : Nat) : (⟨8, c, l, t, u⟩ : Mach).act2 (8 : Nat) = ([4, 0], ⟨9, t, 0, t, u⟩) := rfl
theorem act_6_8 (c l t u : Nat) : (⟨6, c, l, t, u⟩ : Mach).act2 (8 : Nat) = ([4], ⟨7, t, l, t, u⟩) := rfl
theorem act_6_7 (c l t u : Nat) : (⟨6, c, l, t, u⟩ : Mach).act2 (7 : Nat) = ([8], ⟨6, c, l, t, u⟩) := rfl
theorem act_8_9 (c l t u : Nat) : (⟨8, c, l, t, u⟩ : Mach).act2 (9 : Nat) = ([4, 6], ⟨8, t - 1, u, t, u⟩) := rfl
theorem act_6_9 (c l t u : Nat) : (⟨6, c, l, t, u⟩ : Mach).act2 (9 : Nat) = ([4, 6], ⟨6, t - 1, u, t, u⟩) := rfl
/-- A request that lacks nothing is acknowledged. -/
theorem hear_req {n : Neg} {c l t u : Nat} {i : Int} {d : List UInt8} {o : List Opt} (hm : n.m = ⟨6, c, l, t, u⟩) (hs : split d = (0, o)) (hj : judge n.rules o (decide (t ≤ n.naks)) = (2, o)) :
    n.input ⟨1, i, d⟩ = ({ n with m := ⟨8, c, l, t, u⟩, theirs := o }, sends [⟨2, i, (options o).2⟩]) := by
  have h1 : ¬ n.m.state ≤ 1 := by rw [hm]; simp
  have h2 : ¬ (split d).1 ≠ 0 := by rw [hs]; simp
  have hj' : judge n.rules o (decide (n.m.tries ≤ n.naks)) = (2, o) := by rw [hm]; exact hj
  unfold Neg.input
  rw [if_neg h1, if_pos rfl, if_neg h2, hs]
  unfold Neg.judged
  rw [hj']
  dsimp only
  rw [if_pos rfl]
  unfold Neg.event
  rw [hm, act_6_6]
  rfl
theorem hear_req7 {n : Neg} {c l t u : Nat} {i : Int} {d : List UInt8} {o : List Opt} (hm : n.m = ⟨7, c, l, t, u⟩) (hs : split d = (0, o)) (hj : judge n.rules o (decide (t ≤ n.naks)) = (2, o)) :
    n.input ⟨1, i, d⟩ = ({ n with m := ⟨9, c, 0, t, u⟩, theirs := o }, ⟨[⟨2, i, (options o).2⟩], true, false, false, false⟩) := by
  have h1 : ¬ n.m.state ≤ 1 := by rw [hm]; simp
  have h2 : ¬ (split d).1 ≠ 0 := by rw [hs]; simp
  have hj' : judge n.rules o (decide (n.m.tries ≤ n.naks)) = (2, o) := by rw [hm]; exact hj
  unfold Neg.input
  rw [if_neg h1, if_pos rfl, if_neg h2, hs]
  unfold Neg.judged
  rw [hj']
  dsimp only
  rw [if_pos rfl]
  unfold Neg.event
  rw [hm, act_7_6]
  rfl
/-- A request that is not acknowledged, by one that has heard nothing. -/
theorem hear_bad {n : Neg} {c l t u k : Nat} {i : Int} {d : List UInt8} {o a : List Opt} (hm : n.m = ⟨6, c, l, t, u⟩) (hs : split d = (0, o)) (hj : judge n.rules o (decide (t ≤ n.naks)) = (k, a)) (hk : k ≠ 2) :
    n.input ⟨1, i, d⟩ = ({ n with naks := if k = 3 then n.naks + 1 else n.naks }, sends [⟨k, i, (options a).2⟩]) := by
  have h1 : ¬ n.m.state ≤ 1 := by rw [hm]; simp
  have h2 : ¬ (split d).1 ≠ 0 := by rw [hs]; simp
  have hj' : judge n.rules o (decide (n.m.tries ≤ n.naks)) = (k, a) := by rw [hm]; exact hj
  unfold Neg.input
  rw [if_neg h1, if_pos rfl, if_neg h2, hs]
  unfold Neg.judged
  rw [hj']
  dsimp only
  rw [if_neg hk, if_neg (fun h => hk h.1)]
  unfold Neg.event
  rw [hm, act_6_7]
  rw [← hm]
  rfl
/-- The Ack that it waits for. -/
theorem hear_ack8 {n : Neg} {c l t u : Nat} (hm : n.m = ⟨8, c, l, t, u⟩) (hw : n.waits = true) :
    n.input ⟨2, n.asked, n.ours⟩ = ({ n with m := ⟨9, t, 0, t, u⟩, waits := false, acked := (split n.ours).2 }, ⟨[], true, false, false, false⟩) := by
  have h1 : ¬ n.m.state ≤ 1 := by rw [hm]; simp
  unfold Neg.input
  rw [if_neg h1, if_neg (show ¬ (2 : Int) = 1 by decide), if_pos (.inl rfl)]
  unfold Neg.answered
  rw [if_neg (by simp [hw]), if_pos rfl, if_pos rfl]
  unfold Neg.event
  dsimp only
  rw [hm, act_8_8]
  rfl
theorem hear_ack6 {n : Neg} {c l t u : Nat} (hm : n.m = ⟨6, c, l, t, u⟩) (hw : n.waits = true) :
    n.input ⟨2, n.asked, n.ours⟩ = ({ n with m := ⟨7, t, l, t, u⟩, waits := false, acked := (split n.ours).2 }, mute) := by
  have h1 : ¬ n.m.state ≤ 1 := by rw [hm]; simp
  unfold Neg.input
  rw [if_neg h1, if_neg (show ¬ (2 : Int) = 1 by decide), if_pos (.inl rfl)]
  unfold Neg.answered
  rw [if_neg (by simp [hw]), if_pos rfl, if_pos rfl]
  unfold Neg.event
  dsimp only
  rw [hm, act_6_8]
  rfl
/-- It asks anew, with what is left. -/
def anew (n : Neg) (l : List Opt) (c u : Nat) : Neg := { n with request := l, m := ⟨8, c, u, n.m.tries, n.m.timeout⟩, waits := true, id := n.next, asked := n.next, ours := (options l).2 }
theorem hear_rej8 {n : Neg} {c l t u : Nat} {d : List UInt8} {r : List Opt} (hm : n.m = ⟨8, c, l, t, u⟩) (hw : n.waits = true) (hs : split d = (0, r)) (hin : r.all (fun o => (split n.ours).2.any fun q => decide (o = q)) = true) :
    n.input ⟨4, n.asked, d⟩ = (anew n (left n.rules n.request r) (t - 1) u, sends [⟨1, n.next, (options (left n.rules n.request r)).2⟩]) := by
  have h1 : ¬ n.m.state ≤ 1 := by rw [hm]; simp
  have h2 : ¬ (split d).1 ≠ 0 := by rw [hs]; simp
  unfold Neg.input
  rw [if_neg h1, if_neg (show ¬ (4 : Int) = 1 by decide), if_pos (.inr (.inr rfl))]
  unfold Neg.answered
  rw [if_neg (by simp [hw]), if_neg (show ¬ (4 : Int) = 2 by decide), if_neg h2, if_pos rfl, hs, if_pos hin]
  unfold Neg.event anew
  dsimp only
  rw [hm, act_8_9]
  rfl
theorem hear_nak8 {n : Neg} {c l t u : Nat} {d : List UInt8} {r : List Opt} (hm : n.m = ⟨8, c, l, t, u⟩) (hw : n.waits = true) (hs : split d = (0, r)) :
    n.input ⟨3, n.asked, d⟩ = (anew n (naked n.rules n.request r) (t - 1) u, sends [⟨1, n.next, (options (naked n.rules n.request r)).2⟩]) := by
  have h1 : ¬ n.m.state ≤ 1 := by rw [hm]; simp
  have h2 : ¬ (split d).1 ≠ 0 := by rw [hs]; simp
  unfold Neg.input
  rw [if_neg h1, if_neg (show ¬ (3 : Int) = 1 by decide), if_pos (.inr (.inl rfl))]
  unfold Neg.answered
  rw [if_neg (by simp [hw]), if_neg (show ¬ (3 : Int) = 2 by decide), if_neg h2, if_neg (show ¬ (3 : Int) = 4 by decide), hs]
  unfold Neg.event anew
  dsimp only
  rw [hm, act_8_9]
  rfl
/-- An answer that is not the awaited one is dropped. -/
theorem hear_other {n : Neg} {p : Pkt} (hm : 2 ≤ n.m.state) (hc : p.code = 2 ∨ p.code = 3 ∨ p.code = 4) (h : n.waits = false ∨ p.id ≠ n.asked) : n.input p = n.drop := by
  unfold Neg.input
  rw [if_neg (by omega), if_neg (by rcases hc with h | h | h <;> rw [h] <;> decide), if_pos hc]
  unfold Neg.answered
  rw [if_pos h]
theorem hear_changed {n : Neg} {p : Pkt} (hm : 2 ≤ n.m.state) (hc : p.code = 2) (h : p.data ≠ n.ours) : n.input p = n.drop := by
  unfold Neg.input
  rw [if_neg (by omega), if_neg (by rw [hc]; decide), if_pos (.inl hc)]
  unfold Neg.answered
  by_cases hw : n.waits = false ∨ p.id ≠ n.asked
  · rw [if_pos hw]
  · rw [if_neg hw, if_pos hc, if_neg h]
/-- An option whose rules let it pass is acknowledged, another one is rejected. -/
def knows (ts : List Int) (o : Opt) : Bool := decide (o.1 ∈ ts)
theorem verdict_knows (ts : List Int) (rejects : Bool) {l : List Opt} (hl : Apart l) (j : Nat) (o : Opt) (hj : l[j]? = some o) : verdict (ts.map anyRule) rejects (l.take j) o = if knows ts o then .pass else .reject := by
  unfold verdict knows
  by_cases h : o.1 ∈ ts
  · rw [ruleOf_any ts o.1 h]
    dsimp only
    rw [apart_before hl j o hj, if_neg (by decide), if_pos (fits_any _ _), if_pos (by simpa using h)]
  · rw [ruleOf_none ts o.1 h, if_neg (by simpa using h)]
theorem judgeTo_knows (ts : List Int) (rejects : Bool) {l : List Opt} (hl : Apart l) : ∀ k, judgeTo (ts.map anyRule) rejects l k = ((l.take k).filter fun o => !knows ts o, [])
  | 0 => rfl
  | k + 1 => by
    have ih := judgeTo_knows ts rejects hl k
    unfold judgeTo
    cases hk : l[k]? with
    | none =>
      have : l.length ≤ k := by simpa using hk
      dsimp only
      rw [ih, List.take_of_length_le this, List.take_of_length_le (by omega)]
    | some o =>
      dsimp only
      rw [verdict_knows ts rejects hl k o hk, ih]
      have e : l.take (k + 1) = l.take k ++ [o] := by rw [List.take_add_one, hk]; rfl
      rw [e, List.filter_append]
      by_cases h : knows ts o = true
      · rw [if_pos h]
        simp [h]
      · rw [if_neg h]
        simp [h]
theorem judge_knows (ts : List Int) (rejects : Bool) {l : List Opt} (hl : Apart l) : judge (ts.map anyRule) l rejects = if (l.filter fun o => !knows ts o) = [] then (2, l) else (4, l.filter fun o => !knows ts o) := by
  unfold judge
  rw [judgeTo_knows ts rejects hl, List.take_length, needTo_none _ l [] (fun r hr => by obtain ⟨a, _, rfl⟩ := List.mem_map.1 hr; rfl)]
  by_cases h : (l.filter fun o => !knows ts o) = []
  · rw [if_pos h, if_neg (by simpa using h)]
    simp
  · rw [if_neg h, if_pos (by simpa using h)]
/-- What is left of a request behind a Reject of all that the other one does not know. -/
theorem left_knows (rules : List Rule) (hn : ∀ r ∈ rules, r.need = false) (ts : List Int) (l : List Opt) : left rules l (l.filter fun o => !knows ts o) = l.filter (knows ts) := by
  unfold left
  apply List.filter_congr
  intro o ho
  unfold stays
  have h0 : needy rules o.1 = false := by
    unfold needy
    cases hr : ruleOf rules o.1 with
    | none => rfl
    | some r => exact hn r (List.mem_of_find?_eq_some hr)
  rw [h0, Bool.or_false]
  by_cases h : knows ts o = true
  · rw [h, Bool.not_eq_true', List.any_eq_false]
    intro p hp
    simp only [decide_eq_true_eq]
    rintro rfl
    have := (List.mem_filter.1 hp).2
    simp [h] at this
  · have h : knows ts o = false := by simpa using h
    rw [h, Bool.not_eq_false', List.any_eq_true]
    exact ⟨o, List.mem_filter.2 ⟨ho, by simp [h]⟩, by simp⟩
/-- One option, nothing needed. -/
theorem judge_one (rules : List Rule) (hn : ∀ r ∈ rules, r.need = false) (rejects : Bool) (o : Opt) : judge rules [o] rejects = match verdict rules rejects [] o with | .pass => (2, [o]) | .reject => (4, [o]) | .offer p => (3, [p]) := by
  have e : judgeTo rules rejects [o] 1 = match verdict rules rejects [] o with | .pass => ([], []) | .reject => ([o], []) | .offer p => ([], [p]) := by
    show (match verdict rules rejects [] o with | .pass => _ | .reject => _ | .offer p => _) = _
    cases verdict rules rejects [] o <;> rfl
  unfold judge
  rw [show ([o] : List Opt).length = 1 from rfl, e]
  cases verdict rules rejects [] o with
  | pass => dsimp only; rw [needTo_none rules [o] [] hn]; simp
  | reject => rfl
  | offer p => dsimp only; rw [needTo_none rules [o] [p] hn]; simp
def rangeRule (lo hi : Nat) : Rule := ⟨1, 2, 2, lo, hi, [], false⟩
theorem numbered_two (lo hi : Nat) {b : List UInt8} (h : b.length = 2) : (rangeRule lo hi).numbered b := ⟨by show (1 : Int) ≤ 2; decide, by show (2 : Int) ≤ 4; decide, by show (b.length : Int) = 2; omega⟩
theorem fits_range (lo hi : Nat) {b : List UInt8} (h : b.length = 2) : (rangeRule lo hi).fits b ↔ lo ≤ bnum b ∧ bnum b ≤ hi := by
  unfold Rule.fits
  constructor
  · rintro (⟨h1, _⟩ | ⟨_, _, h1, h2⟩ | ⟨h1, _⟩ | ⟨h1, _⟩)
    · exact absurd h1 (show ¬ (2 : Int) = 1 by decide)
    · have h1 : (lo : Int) ≤ bnum b := h1
      have h2 : (bnum b : Int) ≤ hi := h2
      omega
    · exact absurd h1 (show ¬ (2 : Int) = 3 by decide)
    · exact absurd h1 (show ¬ (2 : Int) = 4 by decide)
  · rintro ⟨h1, h2⟩
    exact .inr (.inl ⟨rfl, numbered_two lo hi h, by show (lo : Int) ≤ bnum b; omega, by show (bnum b : Int) ≤ hi; omega⟩)
theorem offers_range (lo hi : Nat) {b : List UInt8} (h : b.length = 2) : (rangeRule lo hi).offers b = some (1, wide (if bnum b < lo then lo else hi) 2) := by
  unfold Rule.offers
  rw [if_pos ⟨rfl, by show (1 : Int) ≤ 2; decide, by show (2 : Int) ≤ 4; decide⟩]
  have e : ((rangeRule lo hi).numbered b ∧ (bnum b : Int) < (rangeRule lo hi).lo) ↔ bnum b < lo := by
    constructor
    · rintro ⟨_, h1⟩
      have h1 : (bnum b : Int) < lo := h1
      omega
    · intro h1
      exact ⟨numbered_two lo hi h, by show (bnum b : Int) < lo; omega⟩
  by_cases hl : bnum b < lo
  · rw [if_pos (e.2 hl), if_pos hl]; rfl
  · rw [if_neg (fun x => hl (e.1 x)), if_neg hl]; rfl
/-- A number that may be too great or too small. -/
theorem judge_range (lo hi : Nat) (more : List Rule) (hn : ∀ r ∈ more, r.need = false) (rejects : Bool) {b : List UInt8} (h : b.length = 2) :
    judge (rangeRule lo hi :: more) [(1, b)] rejects = if lo ≤ bnum b ∧ bnum b ≤ hi then (2, [(1, b)]) else if rejects = true then (4, [(1, b)]) else (3, [(1, wide (if bnum b < lo then lo else hi) 2)]) := by
  rw [judge_one _ (fun r hr => by rcases List.mem_cons.1 hr with rfl | hr; rfl; exact hn r hr)]
  have hv : verdict (rangeRule lo hi :: more) rejects [] (1, b) = if lo ≤ bnum b ∧ bnum b ≤ hi then .pass else if rejects = true then .reject else .offer (1, wide (if bnum b < lo then lo else hi) 2) := by
    unfold verdict
    rw [show ruleOf (rangeRule lo hi :: more) (1, b).1 = some (rangeRule lo hi) from rfl]
    dsimp only
    rw [if_neg (show ¬ hasType [] (1 : Int) = true by decide), offers_range lo hi h]
    by_cases hf : lo ≤ bnum b ∧ bnum b ≤ hi
    · rw [if_pos hf, if_pos ((fits_range lo hi h).2 hf)]
    · rw [if_neg hf, if_neg (fun x => hf ((fits_range lo hi h).1 x))]
  rw [hv]
  by_cases hf : lo ≤ bnum b ∧ bnum b ≤ hi
  · rw [if_pos hf, if_pos hf]
  · rw [if_neg hf, if_neg hf]
    cases rejects <;> rfl
/-- A request of one number behind a Nak. -/
theorem naked_range (lo hi : Nat) (b c : List UInt8) (hc : c.length = 2) (h1 : lo ≤ bnum c) (h2 : bnum c ≤ hi) : naked [rangeRule lo hi] [(1, b)] [(1, c)] = [(1, wide (bnum c) 2)] := by
  have e : nakedOne [rangeRule lo hi] [(1, c)] (1, b) = (1, wide (bnum c) 2) := by
    unfold nakedOne
    rw [show ([(1, c)] : List Opt).find? (fun p => decide (p.1 = ((1, b) : Opt).1)) = some (1, c) from rfl]
    dsimp only
    rw [show ruleOf [rangeRule lo hi] (1 : Int) = some (rangeRule lo hi) from rfl]
    dsimp only
    rw [if_neg (show ¬ (rangeRule lo hi).how = 1 from by show ¬ (2 : Int) = 1; decide), if_pos ⟨rfl, numbered_two lo hi hc⟩]
    show ((1 : Int), wide (min (max (bnum c) lo) hi) 2) = _
    rw [Nat.max_eq_left h1, Nat.min_eq_left h2]
  show [nakedOne _ _ _] = _
  rw [e]
/-- The ends. -/
theorem act_9_3 (c l t u : Nat) : (⟨9, c, l, t, u⟩ : Mach).act2 (3 : Nat) = ([1, 4, 9], ⟨4, t - 1, u, t, u⟩) := rfl
theorem act_9_10 (c l t u : Nat) : (⟨9, c, l, t, u⟩ : Mach).act2 (10 : Nat) = ([1, 5, 10], ⟨5, 0, u, t, u⟩) := rfl
theorem act_4_11 (c l t u : Nat) : (⟨4, c, l, t, u⟩ : Mach).act2 (11 : Nat) = ([3], ⟨2, c, 0, t, u⟩) := rfl
theorem act_2_6 (c l t u : Nat) : (⟨2, c, l, t, u⟩ : Mach).act2 (6 : Nat) = ([10], ⟨2, c, 0, t, u⟩) := rfl
theorem act_9_12 (c l t u : Nat) : (⟨9, c, l, t, u⟩ : Mach).act2 (12 : Nat) = ([11], ⟨9, c, 0, t, u⟩) := rfl
theorem act_9_14 (c l t u : Nat) : (⟨9, c, l, t, u⟩ : Mach).act2 (14 : Nat) = ([1, 4, 9], ⟨5, t - 1, u, t, u⟩) := rfl
theorem act_9_13 (c l t u : Nat) : (⟨9, c, l, t, u⟩ : Mach).act2 (13 : Nat) = ([], ⟨9, c, 0, t, u⟩) := rfl
theorem closes {n : Neg} {c l t u : Nat} (hm : n.m = ⟨9, c, l, t, u⟩) : n.act 3 = ({ n with m := ⟨4, t - 1, u, t, u⟩, id := n.next }, ⟨[⟨5, n.next, []⟩], false, true, false, false⟩) := by
  unfold Neg.act
  rw [if_neg (by decide), if_neg (by decide)]
  show n.event 3 none = _
  unfold Neg.event
  rw [hm, act_9_3]
  rfl
theorem hear_end {n : Neg} {c l t u : Nat} {i : Int} {d : List UInt8} (hm : n.m = ⟨9, c, l, t, u⟩) : n.input ⟨5, i, d⟩ = ({ n with m := ⟨5, 0, u, t, u⟩ }, ⟨[⟨6, i, []⟩], false, true, false, false⟩) := by
  have h1 : ¬ n.m.state ≤ 1 := by rw [hm]; simp
  unfold Neg.input
  rw [if_neg h1, if_neg (show ¬ (5 : Int) = 1 by decide), if_neg (show ¬ ((5 : Int) = 2 ∨ (5 : Int) = 3 ∨ (5 : Int) = 4) by decide), if_pos rfl]
  unfold Neg.event
  rw [hm, act_9_10]
  rfl
theorem hear_ended {n : Neg} {c l t u : Nat} {i : Int} {d : List UInt8} (hm : n.m = ⟨4, c, l, t, u⟩) : n.input ⟨6, i, d⟩ = ({ n with m := ⟨2, c, 0, t, u⟩ }, ⟨[], false, false, false, true⟩) := by
  have h1 : ¬ n.m.state ≤ 1 := by rw [hm]; simp
  unfold Neg.input
  rw [if_neg h1, if_neg (show ¬ (6 : Int) = 1 by decide), if_neg (show ¬ ((6 : Int) = 2 ∨ (6 : Int) = 3 ∨ (6 : Int) = 4) by decide), if_neg (show ¬ (6 : Int) = 5 by decide), if_pos rfl]
  unfold Neg.event
  rw [hm, act_4_11]
  rfl
theorem hear_unknown {n : Neg} {c l t u : Nat} {p : Pkt} (hm : n.m = ⟨9, c, l, t, u⟩) (hp : p.code < 1 ∨ 7 < p.code) : n.input p = ({ n with m := ⟨9, c, 0, t, u⟩, id := n.next }, sends [⟨7, n.next, (encode p).2.take 1496⟩]) := by
  have h1 : ¬ n.m.state ≤ 1 := by rw [hm]; simp
  unfold Neg.input
  rw [if_neg h1, if_neg (by omega), if_neg (by omega), if_neg (by omega), if_neg (by omega), if_neg (by omega)]
  unfold Neg.event
  rw [hm, act_9_12]
  rfl
theorem hear_coderej {n : Neg} {c l t u : Nat} {i : Int} {b : UInt8} {d : List UInt8} (hm : n.m = ⟨9, c, l, t, u⟩) :
    n.input ⟨7, i, b :: d⟩ = if 1 ≤ b.toNat ∧ b.toNat ≤ 7 then ({ n with m := ⟨5, t - 1, u, t, u⟩, id := n.next }, ⟨[⟨5, n.next, []⟩], false, true, false, false⟩) else ({ n with m := ⟨9, c, 0, t, u⟩ }, mute) := by
  have h1 : ¬ n.m.state ≤ 1 := by rw [hm]; simp
  unfold Neg.input
  rw [if_neg h1, if_neg (show ¬ (7 : Int) = 1 by decide), if_neg (show ¬ ((7 : Int) = 2 ∨ (7 : Int) = 3 ∨ (7 : Int) = 4) by decide), if_neg (show ¬ (7 : Int) = 5 by decide), if_neg (show ¬ (7 : Int) = 6 by decide), if_pos rfl]
  dsimp only
  split
  · unfold Neg.event
    rw [hm, act_9_14]
    rfl
  · unfold Neg.event
    rw [hm, act_9_13]
    rfl
/-- A tick at which one asks again. -/
theorem tick_asks_again {n : Neg} {c t u : Nat} (hm : n.m = ⟨6, c + 1, 1, t, u⟩) : n.tick = ({ n with m := ⟨6, c, u, t, u⟩, ours := (options n.request).2, waits := true, id := n.next, asked := n.next }, sends [⟨1, n.next, (options n.request).2⟩]) := by
  unfold Neg.tick
  rw [hm]
  rfl
end Pure
end Go.Proofs.Ytjomcffhbaplcaa
