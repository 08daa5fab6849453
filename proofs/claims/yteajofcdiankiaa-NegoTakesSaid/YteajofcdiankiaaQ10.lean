/- Judging a request as one may go about it, rejects first: the same as chapter 13's words. Nothing of the program. -/
import Derived.Test.YteajofcdiankiaaQ9
import Derived.Test.YteajofcdiankiaaQ1
namespace Go.Proofs.Yteajofcdiankiaa
namespace Pure
/-- The rule that lets nothing pass, and offers nothing. -/
def deadRule : Rule := ⟨0, 0, 0, 0, 0, [], false⟩
def ruleFor (rules : List Rule) (t : Int) : Rule := (ruleOf rules t).getD deadRule
theorem dead_fits (b : List UInt8) : ¬ deadRule.fits b := by
  unfold Rule.fits deadRule
  simp
theorem dead_offers (b : List UInt8) : deadRule.offers b = none := by
  unfold Rule.offers deadRule
  simp
theorem ruleOf_type {rules : List Rule} {t : Int} {r : Rule} (h : ruleOf rules t = some r) : r.type = t := by
  unfold ruleOf at h
  have := List.find?_some h
  simpa using this
theorem offers_type {r : Rule} {b : List UInt8} {o : Opt} (h : r.offers b = some o) : o.1 = r.type := by
  unfold Rule.offers at h
  split at h
  · injection h with h; rw [← h]
  · split at h
    · injection h with h; rw [← h]
    · split at h
      · injection h with h; rw [← h]
      · cases h
/-- Is there nothing for an option but a reject? -/
def refuses (rules : List Rule) (rejects : Bool) (before : List Opt) (o : Opt) : Bool :=
  hasType before o.1 || (!decide ((ruleFor rules o.1).fits o.2) && (rejects || ((ruleFor rules o.1).offers o.2).isNone))
/-- What is offered in the place of an option that does not fit. -/
def counter (rules : List Rule) (o : Opt) : Option Opt := if (ruleFor rules o.1).fits o.2 then none else (ruleFor rules o.1).offers o.2
theorem judgeTo_step (rules : List Rule) (rejects : Bool) (l : List Opt) (k : Nat) (o : Opt) (h : l[k]? = some o) : judgeTo rules rejects l (k + 1) =
    if refuses rules rejects (l.take k) o = true then ((judgeTo rules rejects l k).1 ++ [o], (judgeTo rules rejects l k).2)
    else ((judgeTo rules rejects l k).1, (judgeTo rules rejects l k).2 ++ (counter rules o).toList) := by
  rw [judgeTo, h]
  dsimp only
  unfold verdict refuses counter ruleFor
  cases hr : ruleOf rules o.1 with
  | none =>
    have h1 := dead_fits o.2
    have h2 := dead_offers o.2
    simp [h1, h2]
  | some r =>
    dsimp only [Option.getD_some]
    by_cases hb : hasType (l.take k) o.1 = true
    · simp [hb]
    · by_cases hf : r.fits o.2
      · simp [hb, hf]
      · obtain ⟨x, hx⟩ : ∃ x, r.offers o.2 = x := ⟨_, rfl⟩
        cases x with
        | none => simp [hf, hb, hx]
        | some p =>
          cases rejects
          · simp [hb, hf, hx]
          · simp [hf, hb, hx]
theorem judgeTo_over (rules : List Rule) (rejects : Bool) (l : List Opt) (k : Nat) (h : l.length ≤ k) : judgeTo rules rejects l (k + 1) = judgeTo rules rejects l k := by
  rw [judgeTo, List.getElem?_eq_none h]
theorem take_snoc {α : Type} (l : List α) (k : Nat) (o : α) (h : l[k]? = some o) : l.take (k + 1) = l.take k ++ [o] := by
  rw [List.take_add_one, h]
  rfl
/-- Where nothing is rejected, what is offered is what the options that do not fit are answered with. -/
theorem judgeTo_counters (rules : List Rule) (rejects : Bool) (l : List Opt) : ∀ k, (judgeTo rules rejects l k).1 = [] → (judgeTo rules rejects l k).2 = (l.take k).filterMap (counter rules)
  | 0, _ => rfl
  | k + 1, h => by
    cases hk : l[k]? with
    | none =>
      have hl : l.length ≤ k := by simpa using hk
      rw [judgeTo_over rules rejects l k hl] at h ⊢
      rw [judgeTo_counters rules rejects l k h, List.take_of_length_le hl, List.take_of_length_le (by omega)]
    | some o =>
      rw [judgeTo_step rules rejects l k o hk] at h ⊢
      rw [take_snoc l k o hk, List.filterMap_append]
      split at h
      · simp at h
      · rename_i hn
        rw [if_neg hn]
        dsimp only at h ⊢
        rw [judgeTo_counters rules rejects l k h, show [o].filterMap (counter rules) = (counter rules o).toList by cases hc : counter rules o <;> simp [hc]]
theorem judgeTo_rejects (rules : List Rule) (l : List Opt) : ∀ k, (judgeTo rules true l k).2 = []
  | 0 => rfl
  | k + 1 => by
    have ih := judgeTo_rejects rules l k
    cases hk : l[k]? with
    | none => rw [judgeTo_over rules true l k (by simpa using hk)]; exact ih
    | some o =>
      rw [judgeTo_step rules true l k o hk]
      split
      · exact ih
      · rename_i hn
        dsimp only
        rw [ih, List.nil_append]
        unfold refuses at hn
        unfold counter
        by_cases hf : (ruleFor rules o.1).fits o.2
        · rw [if_pos hf]; rfl
        · simp [hf] at hn
def hasRule (rules : List Rule) (t : Int) : Bool := rules.any fun r => decide (r.type = t)
/-- What the first k rules offer that need what is not there. -/
def missTo (rules : List Rule) (l : List Opt) : Nat → List Opt
  | 0 => []
  | k + 1 =>
    match rules[k]? with
    | none => missTo rules l k
    | some r =>
      if r.need = false ∨ hasRule (rules.take k) r.type = true ∨ hasType l r.type = true then missTo rules l k
      else missTo rules l k ++ (r.offers []).toList
theorem missTo_over (rules : List Rule) (l : List Opt) (k : Nat) (h : rules.length ≤ k) : missTo rules l (k + 1) = missTo rules l k := by
  rw [missTo, List.getElem?_eq_none h]
theorem missTo_step (rules : List Rule) (l : List Opt) (k : Nat) (r : Rule) (h : rules[k]? = some r) : missTo rules l (k + 1) =
    if r.need = false ∨ hasRule (rules.take k) r.type = true ∨ hasType l r.type = true then missTo rules l k else missTo rules l k ++ (r.offers []).toList := by
  rw [missTo, h]
theorem missTo_types (rules : List Rule) (l : List Opt) (t : Int) : ∀ k, hasType (missTo rules l k) t = true → hasRule (rules.take k) t = true
  | 0, h => by simp [missTo, hasType] at h
  | k + 1, h => by
    cases hk : rules[k]? with
    | none =>
      have hl : rules.length ≤ k := by simpa using hk
      rw [missTo_over rules l k hl] at h
      have := missTo_types rules l t k h
      rw [List.take_of_length_le hl] at this
      rw [List.take_of_length_le (show rules.length ≤ k + 1 by omega)]
      exact this
    | some r =>
      rw [missTo_step rules l k r hk] at h
      rw [take_snoc rules k r hk]
      unfold hasRule
      rw [List.any_append]
      split at h
      · have := missTo_types rules l t k h
        unfold hasRule at this
        rw [this]; rfl
      · unfold hasType at h
        rw [List.any_append] at h
        rcases Bool.or_eq_true_iff.1 h with h | h
        · have := missTo_types rules l t k h
          unfold hasRule at this
          rw [this]; rfl
        · cases ho : r.offers [] with
          | none => simp [ho] at h
          | some o =>
            simp [ho] at h
            have := offers_type ho
            simp [← h, this]
/-- The first rule of a type is found among the first k ones, and is among them alone. -/
theorem ruleOf_take {rules : List Rule} {t : Int} {k : Nat} (h : hasRule (rules.take k) t = true) : ∃ j r, j < k ∧ rules[j]? = some r ∧ r.type = t ∧ ruleOf rules t = some r ∧ hasRule (rules.take j) t = false := by
  induction k with
  | zero => simp [hasRule] at h
  | succ k ih =>
    by_cases hb : hasRule (rules.take k) t = true
    · obtain ⟨j, r, hj, rest⟩ := ih hb
      exact ⟨j, r, by omega, rest⟩
    · have hb : hasRule (rules.take k) t = false := by simpa using hb
      cases hk : rules[k]? with
      | none =>
        have hl : rules.length ≤ k := by simpa using hk
        rw [List.take_of_length_le (show rules.length ≤ k + 1 by omega)] at h
        rw [List.take_of_length_le hl, h] at hb
        cases hb
      | some r =>
        rw [take_snoc rules k r hk] at h
        unfold hasRule at h hb
        rw [List.any_append, hb] at h
        have ht : r.type = t := by simpa using h
        refine ⟨k, r, by omega, hk, ht, ?_, hb⟩
        unfold ruleOf
        have hs : rules = (rules.take k ++ [r]) ++ rules.drop (k + 1) := by rw [← take_snoc rules k r hk, List.take_append_drop]
        rw [hs, List.find?_append, List.find?_append]
        have h0 : (rules.take k).find? (fun r => decide (r.type = t)) = none := by
          rw [List.find?_eq_none]
          intro x hx
          have := (List.any_eq_false.1 hb) x hx
          simpa using this
        rw [h0]
        simp [ht]
theorem missTo_has (rules : List Rule) (l : List Opt) (j k : Nat) (h : j ≤ k) (o : Opt) (ho : o ∈ missTo rules l j) : o ∈ missTo rules l k := by
  induction k with
  | zero =>
    have : j = 0 := by omega
    subst this; exact ho
  | succ k ih =>
    rcases Nat.lt_or_ge k j with hj | hj
    · have : j = k + 1 := by omega
      subst this; exact ho
    · have := ih hj
      cases hk : rules[k]? with
      | none => rw [missTo_over rules l k (by simpa using hk)]; exact this
      | some r =>
        rw [missTo_step rules l k r hk]
        split
        · exact this
        · exact List.mem_append_left _ this
theorem needTo_miss (rules : List Rule) (l nak : List Opt) (hn : ∀ o ∈ nak, hasType l o.1 = true) : ∀ k, needTo rules l nak k = nak ++ missTo rules l k
  | 0 => by simp [needTo, missTo]
  | k + 1 => by
    have ih := needTo_miss rules l nak hn k
    rw [needTo]
    cases hk : rules[k]? with
    | none =>
      dsimp only
      rw [missTo_over rules l k (by simpa using hk)]
      exact ih
    | some r =>
      dsimp only
      rw [missTo_step rules l k r hk, ih]
      by_cases h1 : r.need = false
      · rw [if_pos (.inl h1), if_pos (.inl h1)]
      · by_cases h2 : hasType l r.type = true
        · rw [if_pos (.inr (.inl h2)), if_pos (.inr (.inr h2))]
        · have hnak : hasType nak r.type = false := by
            unfold hasType
            rw [List.any_eq_false]
            intro p hp
            simp only [decide_eq_true_eq]
            intro e
            exact h2 (e ▸ hn p hp)
          have hsplit : hasType (nak ++ missTo rules l k) r.type = hasType (missTo rules l k) r.type := by
            unfold hasType at hnak ⊢
            rw [List.any_append, hnak, Bool.false_or]
          rw [hsplit]
          by_cases h3 : hasRule (rules.take k) r.type = true
          · rw [if_pos (show r.need = false ∨ hasRule (rules.take k) r.type = true ∨ hasType l r.type = true from .inr (.inl h3))]
            obtain ⟨j, f, hj, hfj, hft, hff, hfn⟩ := ruleOf_take h3
            split
            · rfl
            · rename_i hno
              rw [hff]
              dsimp only
              split
              · rfl
              · rename_i hneed
                cases ho : f.offers [] with
                | none => rfl
                | some o =>
                  exfalso
                  apply hno
                  refine .inr (.inr ?_)
                  have hin : o ∈ missTo rules l (j + 1) := by
                    rw [missTo_step rules l j f hfj, if_neg (by rw [hft]; simp [hneed, hfn, h2]), ho]
                    simp
                  have := missTo_has rules l (j + 1) k (by omega) o hin
                  unfold hasType
                  rw [List.any_eq_true]
                  exact ⟨o, this, by simp [offers_type ho, hft]⟩
          · have hm : hasType (missTo rules l k) r.type = false := by
              rw [← Bool.not_eq_true]
              exact fun h => h3 (missTo_types rules l r.type k h)
            have hfirst : ruleOf rules r.type = some r := by
              have h4 : hasRule (rules.take (k + 1)) r.type = true := by
                rw [take_snoc rules k r hk]
                unfold hasRule
                rw [List.any_append]
                simp
              obtain ⟨j, f, hj, hfj, hft, hff, hfn⟩ := ruleOf_take h4
              rcases Nat.lt_or_ge j k with hjk | hjk
              · exfalso
                apply h3
                unfold hasRule
                rw [List.any_eq_true]
                exact ⟨f, List.mem_of_getElem? (show (rules.take k)[j]? = some f by rw [List.getElem?_take, if_pos hjk]; exact hfj), by simp [hft]⟩
              · obtain rfl : j = k := by omega
                rw [hk] at hfj
                injection hfj with hfj
                rw [← hfj] at hff; exact hff
            rw [if_neg (by simp [h1, h2, hm]), if_neg (by simp [h1, h2, h3]), hfirst]
            dsimp only
            rw [if_neg h1]
            cases ho : r.offers [] with
            | none => simp
            | some o => simp
/-- Judging, rejects first. -/
theorem judge_prog (rules : List Rule) (l : List Opt) (rejects : Bool) : judge rules l rejects =
    if (judgeTo rules rejects l l.length).1 ≠ [] then (4, (judgeTo rules rejects l l.length).1)
    else if rejects = true then (2, l)
    else if l.filterMap (counter rules) ++ missTo rules l rules.length ≠ [] then (3, l.filterMap (counter rules) ++ missTo rules l rules.length) else (2, l) := by
  unfold judge
  by_cases h : (judgeTo rules rejects l l.length).1 ≠ []
  · rw [if_pos h, if_pos h]
  · rw [if_neg h, if_neg h]
    have h0 : (judgeTo rules rejects l l.length).1 = [] := by simpa using h
    have h1 := judgeTo_counters rules rejects l l.length h0
    rw [List.take_length] at h1
    cases rejects
    · dsimp only
      simp only [Bool.false_eq_true, if_false]
      rw [h1, needTo_miss rules l _ (fun o ho => ?_)]
      obtain ⟨p, hp, hc⟩ := List.mem_filterMap.1 ho
      unfold counter at hc
      split at hc
      · cases hc
      · have ht := offers_type hc
        unfold ruleFor at ht
        unfold hasType
        rw [List.any_eq_true]
        refine ⟨p, hp, ?_⟩
        simp only [decide_eq_true_eq]
        cases hr : ruleOf rules p.1 with
        | none =>
          unfold ruleFor at hc
          rw [hr] at hc
          simp [dead_offers] at hc
        | some r =>
          rw [hr] at ht
          rw [ht]
          exact (ruleOf_type hr).symm
    · rw [judgeTo_rejects]
      simp
end Pure
end Go.Proofs.Yteajofcdiankiaa
/- Lists of one length, one behind the other. -/
namespace Go.Proofs.Yteajofcdiankiaa
open Go.RowKit
/-- Lists of one length, one behind the other. -/
theorem flat_length {α : Type} (f : α → List Value) (n : Nat) (hf : ∀ a, (f a).length = n) (ps : List α) : (ps.flatMap f).length = ps.length * n := by
  induction ps with
  | nil => simp
  | cons p ps ih => rw [List.flatMap_cons, List.length_append, ih, hf, List.length_cons, Nat.add_mul, Nat.one_mul]; omega
theorem flat_at {α : Type} (f : α → List Value) (n : Nat) (hf : ∀ a, (f a).length = n) (ps : List α) (k j : Nat) (p : α) (h : ps[k]? = some p) (hj : j < n) : (ps.flatMap f)[k * n + j]? = (f p)[j]? := by
  induction ps generalizing k with
  | nil => simp at h
  | cons q ps ih =>
    rw [List.flatMap_cons]
    rcases k with _ | k
    · simp at h
      subst h
      rw [Nat.zero_mul, Nat.zero_add, List.getElem?_append_left (by rw [hf]; exact hj)]
    · rw [List.getElem?_append_right (by rw [hf, Nat.add_mul]; omega), hf]
      have := ih k (by simpa using h)
      rw [← this]
      congr 1
      rw [Nat.add_mul]
      omega
end Go.Proofs.Yteajofcdiankiaa
