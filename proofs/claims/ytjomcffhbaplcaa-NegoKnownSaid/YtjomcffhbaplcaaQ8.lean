/- Judging a request as one may go about it, rejects first: the same as chapter 13's words. Nothing of the program. -/
import Derived.Test.YtjomcffhbaplcaaQ7
import Derived.Test.YtjomcffhbaplcaaQ1
import Derived.Test.YtjomcffhbaplcaaQ2
import Derived.Test.YtjomcffhbaplcaaQ5
import Derived.Laws.BytesString
import Derived.Lib.BufferRead
namespace Go.Proofs.Ytjomcffhbaplcaa
namespace Pure
/-- The rule that lets nothing pass, and offers nothing. -/
def deadRule : Rule := ⟨0, 0, 0, 0, 0, [], false⟩
def ruleFor (rules : List Rule) (t : Int) : Rule := (ruleOf rules t).getD deadRule
theorem dead_fits (b : List UInt8) : ¬ deadRule.fits b := by
  unfold Rule.fits deadRule
  simp
theorem dead_offers (b : List UInt8) : deadRule.offers b = none := by
  unfold Rule.offers deadRule
  simp
theorem ruleOf_type {rules : List Rule} {t : Int} {r : Rule} (h : ruleOf rules t = some r) : r.type = t := by
  unfold ruleOf at h
  have := List.find?_some h
  simpa using this
theorem offers_type {r : Rule} {b : List UInt8} {o : Opt} (h : r.offers b = some o) : o.1 = r.type := by
  unfold Rule.offers at h
  split at h
  · injection h with h; rw [← h]
  · split at h
    · injection h with h; rw [← h]
    · split at h
      · injection h with h; rw [← h]
      · cases h
/-- Is there nothing for an option but a reject? -/
def refuses (rules : List Rule) (rejects : Bool) (before : List Opt) (o : Opt) : Bool :=
  hasType before o.1 || (!decide ((ruleFor rules o.1).fits o.2) && (rejects || ((ruleFor rules o.1).offers o.2).isNone))
/-- What is offered in the place of an option that does not fit. -/
def counter (rules : List Rule) (o : Opt) : Option Opt := if (ruleFor rules o.1).fits o.2 then none else (ruleFor rules o.1).offers o.2
theorem judgeTo_step (rules : List Rule) (rejects : Bool) (l : List Opt) (k : Nat) (o : Opt) (h : l[k]? = some o) : judgeTo rules rejects l (k + 1) =
    if refuses rules rejects (l.take k) o = true then ((judgeTo rules rejects l k).1 ++ [o], (judgeTo rules rejects l k).2)
    else ((judgeTo rules rejects l k).1, (judgeTo rules rejects l k).2 ++ (counter rules o).toList) := by
  rw [judgeTo, h]
  dsimp only
  unfold verdict refuses counter ruleFor
  cases hr : ruleOf rules o.1 with
  | none =>
    have h1 := dead_fits o.2
    have h2 := dead_offers o.2
    simp [h1, h2]
  | some r =>
    dsimp only [Option.getD_some]
    by_cases hb : hasType (l.take k) o.1 = true
    · simp [hb]
    · by_cases hf : r.fits o.2
      · simp [hb, hf]
      · obtain ⟨x, hx⟩ : ∃ x, r.offers o.2 = x := ⟨_, rfl⟩
        cases x with
        | none => simp [hf, hb, hx]
        | some p =>
          cases rejects
          · simp [hb, hf, hx]
          · simp [hf, hb, hx]
theorem judgeTo_over (rules : List Rule) (rejects : Bool) (l : List Opt) (k : Nat) (h : l.length ≤ k) : judgeTo rules rejects l (k + 1) = judgeTo rules rejects l k := by
  rw [judgeTo, List.getElem?_eq_none h]
theorem take_snoc {α : Type} (l : List α) (k : Nat) (o : α) (h : l[k]? = some o) : l.take (k + 1) = l.take k ++ [o] := by
  rw [List.take_add_one, h]
  rfl
/-- Where nothing is rejected, what is offered is what the options that do not fit are answered with. -/
theorem judgeTo_counters (rules : List Rule) (rejects : Bool) (l : List Opt) : ∀ k, (judgeTo rules rejects l k).1 = [] → (judgeTo rules rejects l k).2 = (l.take k).filterMap (counter rules)
  | 0, _ => rfl
  | k + 1, h => by
    cases hk : l[k]? with
    | none =>
      have hl : l.length ≤ k := by simpa using hk
      rw [judgeTo_over rules rejects l k hl] at h ⊢
      rw [judgeTo_counters rules rejects l k h, List.take_of_length_le hl, List.take_of_length_le (by omega)]
    | some o =>
      rw [judgeTo_step rules rejects l k o hk] at h ⊢
      rw [take_snoc l k o hk, List.filterMap_append]
      split at h
      · simp at h
      · rename_i hn
        rw [if_neg hn]
        dsimp only at h ⊢
        rw [judgeTo_counters rules rejects l k h, show [o].filterMap (counter rules) = (counter rules o).toList by cases hc : counter rules o <;> simp [hc]]
theorem judgeTo_rejects (rules : List Rule) (l : List Opt) : ∀ k, (judgeTo rules true l k).2 = []
  | 0 => rfl
  | k + 1 => by
    have ih := judgeTo_rejects rules l k
    cases hk : l[k]? with
    | none => rw [judgeTo_over rules true l k (by simpa using hk)]; exact ih
    | some o =>
      rw [judgeTo_step rules true l k o hk]
      split
      · exact ih
      · rename_i hn
        dsimp only
        rw [ih, List.nil_append]
        unfold refuses at hn
        unfold counter
        by_cases hf : (ruleFor rules o.1).fits o.2
        · rw [if_pos hf]; rfl
        · simp [hf] at hn
def hasRule (rules : List Rule) (t : Int) : Bool := rules.any fun r => decide (r.type = t)
/-- What the first k rules offer that need what is not there. -/
def missTo (rules : List Rule) (l : List Opt) : Nat → List Opt
  | 0 => []
  | k + 1 =>
    match rules[k]? with
    | none => missTo rules l k
    | some r =>
      if r.need = false ∨ hasRule (rules.take k) r.type = true ∨ hasType l r.type = true then missTo rules l k
      else missTo rules l k ++ (r.offers []).toList
theorem missTo_over (rules : List Rule) (l : List Opt) (k : Nat) (h : rules.length ≤ k) : missTo rules l (k + 1) = missTo rules l k := by
  rw [missTo, List.getElem?_eq_none h]
theorem missTo_step (rules : List Rule) (l : List Opt) (k : Nat) (r : Rule) (h : rules[k]? = some r) : missTo rules l (k + 1) =
    if r.need = false ∨ hasRule (rules.take k) r.type = true ∨ hasType l r.type = true then missTo rules l k else missTo rules l k ++ (r.offers []).toList := by
  rw [missTo, h]
theorem missTo_types (rules : List Rule) (l : List Opt) (t : Int) : ∀ k, hasType (missTo rules l k) t = true → hasRule (rules.take k) t = true
  | 0, h => by simp [missTo, hasType] at h
  | k + 1, h => by
    cases hk : rules[k]? with
    | none =>
      have hl : rules.length ≤ k := by simpa using hk
      rw [missTo_over rules l k hl] at h
      have := missTo_types rules l t k h
      rw [List.take_of_length_le hl] at this
      rw [List.take_of_length_le (show rules.length ≤ k + 1 by omega)]
      exact this
    | some r =>
      rw [missTo_step rules l k r hk] at h
      rw [take_snoc rules k r hk]
      unfold hasRule
      rw [List.any_append]
      split at h
      · have := missTo_types rules l t k h
        unfold hasRule at this
        rw [this]; rfl
      · unfold hasType at h
        rw [List.any_append] at h
        rcases Bool.or_eq_true_iff.1 h with h | h
        · have := missTo_types rules l t k h
          unfold hasRule at this
          rw [this]; rfl
        · cases ho : r.offers [] with
          | none => simp [ho] at h
          | some o =>
            simp [ho] at h
            have := offers_type ho
            simp [← h, this]
/-- The first rule of a type is found among the first k ones, and is among them alone. -/
theorem ruleOf_take {rules : List Rule} {t : Int} {k : Nat} (h : hasRule (rules.take k) t = true) : ∃ j r, j < k ∧ rules[j]? = some r ∧ r.type = t ∧ ruleOf rules t = some r ∧ hasRule (rules.take j) t = false := by
  induction k with
  | zero => simp [hasRule] at h
  | succ k ih =>
    by_cases hb : hasRule (rules.take k) t = true
    · obtain ⟨j, r, hj, rest⟩ := ih hb
      exact ⟨j, r, by omega, rest⟩
    · have hb : hasRule (rules.take k) t = false := by simpa using hb
      cases hk : rules[k]? with
      | none =>
        have hl : rules.length ≤ k := by simpa using hk
        rw [List.take_of_length_le (show rules.length ≤ k + 1 by omega)] at h
        rw [List.take_of_length_le hl, h] at hb
        cases hb
      | some r =>
        rw [take_snoc rules k r hk] at h
        unfold hasRule at h hb
        rw [List.any_append, hb] at h
        have ht : r.type = t := by simpa using h
        refine ⟨k, r, by omega, hk, ht, ?_, hb⟩
        unfold ruleOf
        have hs : rules = (rules.take k ++ [r]) ++ rules.drop (k + 1) := by rw [← take_snoc rules k r hk, List.take_append_drop]
        rw [hs, List.find?_append, List.find?_append]
        have h0 : (rules.take k).find? (fun r => decide (r.type = t)) = none := by
          rw [List.find?_eq_none]
          intro x hx
          have := (List.any_eq_false.1 hb) x hx
          simpa using this
        rw [h0]
        simp [ht]
theorem missTo_has (rules : List Rule) (l : List Opt) (j k : Nat) (h : j ≤ k) (o : Opt) (ho : o ∈ missTo rules l j) : o ∈ missTo rules l k := by
  induction k with
  | zero =>
    have : j = 0 := by omega
    subst this; exact ho
  | succ k ih =>
    rcases Nat.lt_or_ge k j with hj | hj
    · have : j = k + 1 := by omega
      subst this; exact ho
    · have := ih hj
      cases hk : rules[k]? with
      | none => rw [missTo_over rules l k (by simpa using hk)]; exact this
      | some r =>
        rw [missTo_step rules l k r hk]
        split
        · exact this
        · exact List.mem_append_left _ this
theorem needTo_miss (rules : List Rule) (l nak : List Opt) (hn : ∀ o ∈ nak, hasType l o.1 = true) : ∀ k, needTo rules l nak k = nak ++ missTo rules l k
  | 0 => by simp [needTo, missTo]
  | k + 1 => by
    have ih := needTo_miss rules l nak hn k
    rw [needTo]
    cases hk : rules[k]? with
    | none =>
      dsimp only
      rw [missTo_over rules l k (by simpa using hk)]
      exact ih
    | some r =>
      dsimp only
      rw [missTo_step rules l k r hk, ih]
      by_cases h1 : r.need = false
      · rw [if_pos (.inl h1), if_pos (.inl h1)]
      · by_cases h2 : hasType l r.type = true
        · rw [if_pos (.inr (.inl h2)), if_pos (.inr (.inr h2))]
        · have hnak : hasType nak r.type = false := by
            unfold hasType
            rw [List.any_eq_false]
            intro p hp
            simp only [decide_eq_true_eq]
            intro e
            exact h2 (e ▸ hn p hp)
          have hsplit : hasType (nak ++ missTo rules l k) r.type = hasType (missTo rules l k) r.type := by
            unfold hasType at hnak ⊢
            rw [List.any_append, hnak, Bool.false_or]
          rw [hsplit]
          by_cases h3 : hasRule (rules.take k) r.type = true
          · rw [if_pos (show r.need = false ∨ hasRule (rules.take k) r.type = true ∨ hasType l r.type = true from .inr (.inl h3))]
            obtain ⟨j, f, hj, hfj, hft, hff, hfn⟩ := ruleOf_take h3
            split
            · rfl
            · rename_i hno
              rw [hff]
              dsimp only
              split
              · rfl
              · rename_i hneed
                cases ho : f.offers [] with
                | none => rfl
                | some o =>
                  exfalso
                  apply hno
                  refine .inr (.inr ?_)
                  have hin : o ∈ missTo rules l (j + 1) := by
                    rw [missTo_step rules l j f hfj, if_neg (by rw [hft]; simp [hneed, hfn, h2]), ho]
                    simp
                  have := missTo_has rules l (j + 1) k (by omega) o hin
                  unfold hasType
                  rw [List.any_eq_true]
                  exact ⟨o, this, by simp [offers_type ho, hft]⟩
          · have hm : hasType (missTo rules l k) r.type = false := by
              rw [← Bool.not_eq_true]
              exact fun h => h3 (missTo_types rules l r.type k h)
            have hfirst : ruleOf rules r.type = some r := by
              have h4 : hasRule (rules.take (k + 1)) r.type = true := by
                rw [take_snoc rules k r hk]
                unfold hasRule
                rw [List.any_append]
                simp
              obtain ⟨j, f, hj, hfj, hft, hff, hfn⟩ := ruleOf_take h4
              rcases Nat.lt_or_ge j k with hjk | hjk
              · exfalso
                apply h3
                unfold hasRule
                rw [List.any_eq_true]
                exact ⟨f, List.mem_of_getElem? (show (rules.take k)[j]? = some f by rw [List.getElem?_take, if_pos hjk]; exact hfj), by simp [hft]⟩
              · obtain rfl : j = k := by omega
                rw [hk] at hfj
                injection hfj with hfj
                rw [← hfj] at hff; exact hff
            rw [if_neg (by simp [h1, h2, hm]), if_neg (by simp [h1, h2, h3]), hfirst]
            dsimp only
            rw [if_neg h1]
            cases ho : r.offers [] with
            | none => simp
            | some o => simp
/-- Judging, rejects first. -/
theorem judge_prog (rules : List Rule) (l : List Opt) (rejects : Bool) : judge rules l rejects =
    if (judgeTo rules rejects l l.length).1 ≠ [] then (4, (judgeTo rules rejects l l.length).1)
    else if rejects = true then (2, l)
    else if l.filterMap (counter rules) ++ missTo rules l rules.length ≠ [] then (3, l.filterMap (counter rules) ++ missTo rules l rules.length) else (2, l) := by
  unfold judge
  by_cases h : (judgeTo rules rejects l l.length).1 ≠ []
  · rw [if_pos h, if_pos h]
  · rw [if_neg h, if_neg h]
    have h0 : (judgeTo rules rejects l l.length).1 = [] := by simpa using h
    have h1 := judgeTo_counters rules rejects l l.length h0
    rw [List.take_length] at h1
    cases rejects
    · dsimp only
      simp only [Bool.false_eq_true, if_false]
      rw [h1, needTo_miss rules l _ (fun o ho => ?_)]
      obtain ⟨p, hp, hc⟩ := List.mem_filterMap.1 ho
      unfold counter at hc
      split at hc
      · cases hc
      · have ht := offers_type hc
        unfold ruleFor at ht
        unfold hasType
        rw [List.any_eq_true]
        refine ⟨p, hp, ?_⟩
        simp only [decide_eq_true_eq]
        cases hr : ruleOf rules p.1 with
        | none =>
          unfold ruleFor at hc
          rw [hr] at hc
          simp [dead_offers] at hc
        | some r =>
          rw [hr] at ht
          rw [ht]
          exact (ruleOf_type hr).symm
    · rw [judgeTo_rejects]
      simp
end Pure
end Go.Proofs.Ytjomcffhbaplcaa
/- Lists of one length, one behind the other. -/
namespace Go.Proofs.Ytjomcffhbaplcaa
open Go.RowKit
/-- Lists of one length, one behind the other. -/
theorem flat_length {α : Type} (f : α → List Value) (n : Nat) (hf : ∀ a, (f a).length = n) (ps : List α) : (ps.flatMap f).length = ps.length * n := by
  induction ps with
  | nil => simp
  | cons p ps ih => rw [List.flatMap_cons, List.length_append, ih, hf, List.length_cons, Nat.add_mul, Nat.one_mul]; omega
theorem flat_at {α : Type} (f : α → List Value) (n : Nat) (hf : ∀ a, (f a).length = n) (ps : List α) (k j : Nat) (p : α) (h : ps[k]? = some p) (hj : j < n) : (ps.flatMap f)[k * n + j]? = (f p)[j]? := by
  induction ps generalizing k with
  | nil => simp at h
  | cons q ps ih =>
    rw [List.flatMap_cons]
    rcases k with _ | k
    · simp at h
      subst h
      rw [Nat.zero_mul, Nat.zero_add, List.getElem?_append_left (by rw [hf]; exact hj)]
    · rw [List.getElem?_append_right (by rw [hf, Nat.add_mul]; omega), hf]
      have := ih k (by simpa using h)
      rw [← this]
      congr 1
      rw [Nat.add_mul]
      omega
end Go.Proofs.Ytjomcffhbaplcaa
/- A slice of rules, as a walk meets it. -/
namespace Go.Proofs.Ytjomcffhbaplcaa
open Go.RowKit
/-- The cells of a rule whose bytes lie where the value says. -/
abbrev ruleCells (p : Value × Pure.Rule) : List Value := [.int .i64 p.2.type, .int .i64 p.2.len, .int .i64 p.2.how, .int .i64 p.2.lo, .int .i64 p.2.hi, p.1, .bool p.2.need]
/-- A rule as it is handed by value. -/
abbrev ruleV (p : Value × Pure.Rule) : Value := .agg (ruleCells p).toArray
abbrev rulesCells (ps : List (Value × Pure.Rule)) : List Value := ps.flatMap ruleCells
theorem rulesCells_length (ps : List (Value × Pure.Rule)) : (rulesCells ps).length = ps.length * 7 := flat_length ruleCells 7 (fun _ => rfl) ps
theorem rulesCells_at (ps : List (Value × Pure.Rule)) (k j : Nat) (p : Value × Pure.Rule) (h : ps[k]? = some p) (hj : j < 7) : (rulesCells ps)[k * 7 + j]? = (ruleCells p)[j]? := flat_at ruleCells 7 (fun _ => rfl) ps k j p h hj
/-- A slice of rules. -/
structure RRow (w : World) (F : Nat → Prop) (x : Value) (ps : List (Value × Pure.Rule)) : Prop where
  out : Row w F 7 x ps.length (rulesCells ps)
  rows : ∀ p ∈ ps, Row w F 1 p.1 p.2.want.length (u8s p.2.want)
theorem RRow.keeps {S F : Nat → Prop} {w w' : World} {x : Value} {ps : List (Value × Pure.Rule)} (h : RRow w F x ps) (k : Keeps S w w') (hs : ∀ b, F b → ¬ S b) : RRow w' F x ps :=
  ⟨h.out.keeps k hs, fun p hp => (h.rows p hp).keeps k hs⟩
theorem RRow.mono {F G : Nat → Prop} {w : World} {x : Value} {ps : List (Value × Pure.Rule)} (h : RRow w F x ps) (hG : ∀ b, F b → G b) : RRow w G x ps :=
  ⟨h.out.mono hG, fun p hp => (h.rows p hp).mono hG⟩
theorem RRow.nil (w : World) (F : Nat → Prop) : RRow w F (.slice none 0 0) [] := ⟨Row.nil _ _ _, by simp⟩
def In64 (n : Int) : Prop := -9223372036854775808 ≤ n ∧ n ≤ 9223372036854775807
/-- The numbers of a rule that came in. -/
structure Rule64 (r : Pure.Rule) : Prop where
  type : In64 r.type
  len : In64 r.len
  how : In64 r.how
  lo : In64 r.lo
  hi : In64 r.hi
/-- A []Rule that came in. -/
theorem rules_of {w : World} {a : Option Addr} {len cap : Nat} (h : IsStructs w [.int .i64, .int .i64, .int .i64, .int .i64, .int .i64, .row .u8, .bool] a len cap) :
    ∃ ps : List (Value × Pure.Rule), ps.length = len ∧ RRow w (fun b => b < w.heap.size) (.slice a len cap) ps ∧ ∀ p ∈ ps, Rule64 p.2 := by
  rcases h with ⟨rfl, rfl, rfl⟩ | ⟨x, rfl, hl, hm, hi⟩
  · exact ⟨[], rfl, RRow.nil _ _, by simp⟩
  · obtain ⟨ps, hpl, hps⟩ := list_choice (P := fun i (d : Value × Pure.Rule) => (∀ j u, (ruleCells d)[j]? = some u → w.cell? (x.add (i * 7 + j)) = some u) ∧ Row w (fun b => b < w.heap.size) 1 d.1 d.2.want.length (u8s d.2.want) ∧ Rule64 d.2) len (fun i hil => by
      obtain ⟨u0, h0, n0, rfl, w0⟩ := hi i hil 0 _ rfl
      obtain ⟨u1, h1, n1, rfl, w1⟩ := hi i hil 1 _ rfl
      obtain ⟨u2, h2, n2, rfl, w2⟩ := hi i hil 2 _ rfl
      obtain ⟨u3, h3, n3, rfl, w3⟩ := hi i hil 3 _ rfl
      obtain ⟨u4, h4, n4, rfl, w4⟩ := hi i hil 4 _ rfl
      obtain ⟨u5, h5, a', l', c', zs, rfl, hr⟩ := hi i hil 5 _ rfl
      obtain ⟨u6, h6, b6, rfl⟩ := hi i hil 6 _ rfl
      obtain ⟨bs, hbl, hrow⟩ := hr.bytes
      refine ⟨(.slice a' l' c', ⟨n0, n1, n2, n3, n4, bs, b6⟩), fun j u hu => ?_, ?_, ⟨i64_of_wf w0, i64_of_wf w1, i64_of_wf w2, i64_of_wf w3, i64_of_wf w4⟩⟩
      · match j, hu with
        | 0, hu => cases hu; exact h0
        | 1, hu => cases hu; exact h1
        | 2, hu => cases hu; exact h2
        | 3, hu => cases hu; exact h3
        | 4, hu => cases hu; exact h4
        | 5, hu => cases hu; exact h5
        | 6, hu => cases hu; exact h6
        | j + 7, hu => simp at hu
      · rw [← hbl] at hrow ⊢
        exact hrow)
    refine ⟨ps, hpl, ⟨⟨rulesCells_length ps, by omega, some x, cap, by rw [hpl], by omega, by simp, fun hz => ?_⟩, fun p hp => ?_⟩, fun p hp => ?_⟩
    · have h1 := (hps 0 ps[0] (List.getElem?_eq_getElem hz)).1 0 _ rfl
      obtain ⟨b, off, rfl⟩ := addr_of_cell h1
      rw [addr_add] at h1
      refine ⟨b, off, rfl, cell_lt h1, fun j u hu => ?_⟩
      have hj : j < ps.length * 7 := by
        have := (List.getElem?_eq_some_iff.1 hu).1
        rwa [rulesCells_length] at this
      have hk : j / 7 < ps.length := by omega
      have q := (hps (j / 7) _ (List.getElem?_eq_getElem hk)).1 (j % 7)
      have o := rulesCells_at ps (j / 7) (j % 7) _ (List.getElem?_eq_getElem hk) (by omega)
      rw [show j / 7 * 7 + j % 7 = j by omega] at o q
      rw [hu] at o
      have := q u o.symm
      rwa [addr_add] at this
    · obtain ⟨i, hi', rfl⟩ := List.getElem_of_mem hp
      exact (hps i _ (List.getElem?_eq_getElem hi')).2.1
    · obtain ⟨i, hi', rfl⟩ := List.getElem_of_mem hp
      exact (hps i _ (List.getElem?_eq_getElem hi')).2.2
theorem RRow.form {w : World} {F : Nat → Prop} {x : Value} {ps : List (Value × Pure.Rule)} (h : RRow w F x ps) : ∃ A c, x = .slice A ps.length c ∧ ps.length ≤ c := by
  obtain ⟨_, _, A, c, rfl, hc, _⟩ := h.out
  exact ⟨A, c, rfl, hc⟩
/-- One of its rules: its seven cells, and its bytes. -/
theorem RRow.pick {w : World} {F : Nat → Prop} {X : Option Addr} {n cx : Nat} {ps : List (Value × Pure.Rule)} (h : RRow w F (.slice X n cx) ps) (k : Nat) (hk : k < ps.length) :
    ∃ p o A c r, X = some ⟨p, o, none⟩ ∧ F p ∧ (∀ j u, (ruleCells (.slice A r.want.length c, r))[j]? = some u → w.cell? ⟨p, o + k * 7 + j, none⟩ = some u) ∧ Row w F 1 (.slice A r.want.length c) r.want.length (u8s r.want) ∧ ps[k]? = some (.slice A r.want.length c, r) := by
  obtain ⟨_, _, A', c', e, _, _, hh⟩ := h.out
  obtain ⟨p, o, rfl, hF, hc⟩ := hh (by omega)
  injection e with e1 _ _
  have hget := List.getElem?_eq_getElem hk
  have hr := h.rows ps[k] (List.getElem_mem hk)
  obtain ⟨A, c, hform, _⟩ := hr.form
  refine ⟨p, o, A, c, ps[k].2, e1, hF, fun j u hu => ?_, by rw [← hform]; exact hr, by rw [hget, ← hform]⟩
  rw [← hform] at hu
  have hj : j < 7 := (List.getElem?_eq_some_iff.1 hu).1
  rw [Nat.add_assoc]
  exact hc (k * 7 + j) u ((rulesCells_at ps k j _ hget hj).trans hu)
end Go.Proofs.Ytjomcffhbaplcaa
/- Contracts of package bytes: Clone, Equal. -/
namespace Go.Proofs.Ytjomcffhbaplcaa
open Go.RowKit

set_option maxHeartbeats 400000 in
theorem bclone_any (F : Nat → Prop) (x : Value) (n : Nat) (l : List UInt8) (w : World) (hr : Row w F 1 x n (u8s l)) (hn : n ≤ 140737488355328) :
    Calls Try.prog 53 #[x] w fun e w' => ∃ v, e = .returned v ∧ w'.ownsRow w.heap.size 5 1 v n (u8s l) ∧ Below w.heap.size w w' := by
  obtain ⟨i0, hi0, hz0, hz1, hz2⟩ := info_parts u8_info
  have hr' := hr
  obtain ⟨hl, hm, A, c, rfl, hc, hA, hcell⟩ := hr
  rcases A with _ | ad
  · obtain rfl := hA rfl
    have hl0 : u8s l = [] := List.eq_nil_of_length_eq_zero (by simpa using hl)
    clear hcell hA hl
    have hq := fun (W : World) => Lib.run_eql_slice_nil (P := Try.prog) W 30 5 none 0 c 0 0 Try.underlying30
    go_enter Try.func53, Try.ntmps53
    go_wp2
    go_ret
    refine ⟨_, rfl, ⟨by rw [hl0]; rfl, .inl ⟨rfl, rfl⟩⟩, Below.refl _ _⟩
  · have HL := Lib.hid hl
    have hbw : Row (w.alloc (.cells #[] 5)) F 1 (.slice (some ad) n c) n (u8s l) :=
      hr'.cellsOf fun b off u _ hu => (World.cell?_alloc_lt w _ ⟨b, off, none⟩ (cell_lt hu)).trans hu
    clear hl hcell hA hr'
    have hq := fun (W : World) => Lib.run_eql_slice_nil (P := Try.prog) W 30 5 (some ad) n c 0 0 Try.underlying30
    go_enter Try.func53, Try.ntmps53
    go_wp2_with (at_builtin; refine stopHere ?_)
    unfold Hid
    refine wpList_append_row rfl (.tmp 5) (.tmp 6) _ rfl w.heap.size 5 i0 _ 1 1 Try.underlying30 hi0 hz0 hz1 hz2 rfl (by omega) (.slice (some ⟨w.heap.size, 0, none⟩) 0 0) 0 []
      rfl (ownsRow_made _ _ _ _ (Nat.le_refl _)) F _ n (u8s l) rfl hbw (u8s_cells l) (by omega) (by omega) (by simp) ?_
    intro v1 w1 hown1 hg1 hat1
    go_wp2
    go_ret
    refine ⟨v1, rfl, by simpa using hown1, ((Below.refl _ _).alloc (Nat.le_refl _) _).grown hg1 (by simp) ?_⟩
    intro k hk
    simp [Value.ownBlock] at hk
    omega
theorem push_all : ∀ (l : List UInt8) (s : ByteArray), (l.map fun b => (b.toNat : Int)).foldl (fun r n => r.push (UInt8.ofNat n.toNat)) s = ⟨s.data ++ l.toArray⟩
  | [], s => by simp
  | x :: l, s => by
    rw [List.map_cons, List.foldl_cons, push_all l]
    simp [ByteArray.push]
/-- Bytes as a string. -/
theorem row_string {F : Nat → Prop} {A : Option Addr} {n c : Nat} {l : List UInt8} {w : World} (h : Row w F 1 (.slice A n c) n (u8s l)) :
    (convert 30 9 (.slice A n c)).run Try.prog w = .ok (.string ⟨l.toArray⟩) w := by
  have hl := h.1
  have hln : n = l.length := by simpa using hl.symm
  rcases A with _ | a
  · have h0 : n = 0 := by
      obtain ⟨_, _, A', c', e, _, _, hh⟩ := h
      rcases Nat.eq_zero_or_pos n with h0 | h0
      · exact h0
      · obtain ⟨b, off, rfl, _⟩ := hh h0
        injection e with e1
        cases e1
    subst h0
    have : l = [] := List.eq_nil_of_length_eq_zero hln.symm
    subst this
    exact Lib.run_convert_nil_bytes w 30 9 5 c Try.underlying30 Try.underlying5 Try.underlying9
  · rw [run_convert_bytes_string w 30 9 5 _ n c Try.underlying30 Try.underlying5 Try.underlying9]
    have hlc : (loadCells a n).run Try.prog w = .ok (u8s l).toArray w := by
      have := run_loadCells_list (P := Try.prog) (w := w) a (u8s l) (fun j v hj => by
        have hj' : j < l.length := by simpa using (List.getElem?_eq_some_iff.1 hj).1
        obtain ⟨b, off, e, _, hc⟩ := h.cellAt (by omega)
        injection e with e
        subst e
        rw [addr_add]
        exact hc j v hj)
      rw [hln]
      simpa using this
    rw [run_bytesToString w a n c (l.map fun b => (b.toNat : Int)) (by rw [hlc]; simp [u8s])]
    rw [push_all]
    simp
set_option maxHeartbeats 400000 in
theorem bequal_any (F G : Nat → Prop) (x y : Value) (n m : Nat) (a b : List UInt8) (w : World) (hx : Row w F 1 x n (u8s a)) (hy : Row w G 1 y m (u8s b)) :
    Calls Try.prog 60 #[x, y] w fun e w' => e = .returned (.bool (decide (a = b))) ∧ w = w' := by
  obtain ⟨A, cA, rfl, _⟩ := hx.form
  obtain ⟨B, cB, rfl, _⟩ := hy.form
  have h1 := row_string hx
  have h2 := row_string hy
  have HB := Lib.hid (show (a == b) = decide (a = b) by rw [Bool.eq_iff_iff]; simp)
  clear hx hy
  go_enter Try.func60, Try.ntmps60
  go_wp2
  go_ret
  exact ⟨by rw [← HB.out]; rfl, rfl⟩
end Go.Proofs.Ytjomcffhbaplcaa
