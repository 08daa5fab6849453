/- A slice of options, as a walk meets it. -/
import Derived.Test.YtjomcffhbaplcaaQ2
import Derived.Deep.RegionHeld3
import Derived.WalkKit
import Derived.Laws.Tables
import Derived.Laws.CopyOwn
import Derived.Laws.Rows
namespace Go.Proofs.Ytjomcffhbaplcaa
open Go.RowKit
/-- The cells of options whose bytes lie where the values say. -/
abbrev optCells (ps : List (Value × Pure.Opt)) : List Value := ps.flatMap fun p => [.int .i64 p.2.1, p.1]
theorem optCells_length (ps : List (Value × Pure.Opt)) : (optCells ps).length = ps.length * 2 := by
  induction ps with
  | nil => rfl
  | cons p ps ih => rw [optCells, List.flatMap_cons, List.length_append, ih]; simp; omega
theorem optCells_at (ps : List (Value × Pure.Opt)) (k : Nat) (p : Value × Pure.Opt) (h : ps[k]? = some p) : (optCells ps)[2 * k]? = some (.int .i64 p.2.1) ∧ (optCells ps)[2 * k + 1]? = some p.1 := by
  induction ps generalizing k with
  | nil => simp at h
  | cons q ps ih =>
    rcases k with _ | k
    · simp at h
      subst h
      exact ⟨rfl, rfl⟩
    · have := ih k (by simpa using h)
      rw [optCells, List.flatMap_cons]
      rw [List.getElem?_append_right (by simp; omega), List.getElem?_append_right (by simp; omega)]
      simpa [Nat.mul_add, Nat.add_assoc] using this
/-- A slice of options. -/
structure ORow (w : World) (F : Nat → Prop) (x : Value) (ps : List (Value × Pure.Opt)) : Prop where
  out : Row w F 2 x ps.length (optCells ps)
  rows : ∀ p ∈ ps, Row w F 1 p.1 p.2.2.length (u8s p.2.2)
theorem ORow.keeps {S F : Nat → Prop} {w w' : World} {x : Value} {ps : List (Value × Pure.Opt)} (h : ORow w F x ps) (k : Keeps S w w') (hs : ∀ b, F b → ¬ S b) : ORow w' F x ps :=
  ⟨h.out.keeps k hs, fun p hp => (h.rows p hp).keeps k hs⟩
theorem ORow.mono {F G : Nat → Prop} {w : World} {x : Value} {ps : List (Value × Pure.Opt)} (h : ORow w F x ps) (hG : ∀ b, F b → G b) : ORow w G x ps :=
  ⟨h.out.mono hG, fun p hp => (h.rows p hp).mono hG⟩
theorem ORow.nil (w : World) (F : Nat → Prop) : ORow w F (.slice none 0 0) [] := ⟨Row.nil _ _ _, by simp⟩
/-- A []api.Option that came in. -/
theorem opts_of {w : World} {a : Option Addr} {len cap : Nat} (h : IsStructs w [.int .i64, .row .u8] a len cap) :
    ∃ ps : List (Value × Pure.Opt), ps.length = len ∧ ORow w (fun b => b < w.heap.size) (.slice a len cap) ps ∧ ∀ p ∈ ps, -9223372036854775808 ≤ p.2.1 ∧ p.2.1 ≤ 9223372036854775807 := by
  rcases h with ⟨rfl, rfl, rfl⟩ | ⟨x, rfl, hl, hm, hi⟩
  · exact ⟨[], rfl, ORow.nil _ _, by simp⟩
  · obtain ⟨ps, hpl, hps⟩ := list_choice (P := fun i (d : Value × Pure.Opt) => w.cell? (x.add (i * 2)) = some (.int .i64 d.2.1) ∧ w.cell? (x.add (i * 2 + 1)) = some d.1 ∧ Row w (fun b => b < w.heap.size) 1 d.1 d.2.2.length (u8s d.2.2) ∧ (-9223372036854775808 ≤ d.2.1 ∧ d.2.1 ≤ 9223372036854775807)) len (fun i hil => by
      obtain ⟨u, hu, n, rfl, hn⟩ := hi i hil 0 _ rfl
      obtain ⟨v, hv, a', l', c', zs, rfl, hr⟩ := hi i hil 1 _ rfl
      obtain ⟨bs, hbl, hrow⟩ := hr.bytes
      refine ⟨(.slice a' l' c', n, bs), by simpa using hu, by simpa using hv, ?_, i64_of_wf hn⟩
      rw [← hbl] at hrow ⊢
      exact hrow)
    refine ⟨ps, hpl, ⟨⟨by rw [optCells_length], by omega, some x, cap, by rw [hpl], by omega, by simp, fun h0 => ?_⟩, fun p hp => ?_⟩, fun p hp => ?_⟩
    · have h1 := (hps 0 ps[0] (List.getElem?_eq_getElem h0)).1
      obtain ⟨b, off, rfl⟩ := addr_of_cell h1
      rw [addr_add] at h1
      refine ⟨b, off, rfl, cell_lt h1, fun j u hu => ?_⟩
      have hj : j < ps.length * 2 := by
        have := (List.getElem?_eq_some_iff.1 hu).1
        rwa [optCells_length] at this
      have hk : j / 2 < ps.length := by omega
      obtain ⟨q1, q2, _, _⟩ := hps (j / 2) _ (List.getElem?_eq_getElem hk)
      obtain ⟨o1, o2⟩ := optCells_at ps (j / 2) _ (List.getElem?_eq_getElem hk)
      rcases (show j = 2 * (j / 2) ∨ j = 2 * (j / 2) + 1 by omega) with e | e
      · rw [e, o1] at hu
        injection hu with hu
        subst hu
        rw [addr_add] at q1
        rw [show off + j = off + j / 2 * 2 by omega]
        exact q1
      · rw [e, o2] at hu
        injection hu with hu
        subst hu
        rw [addr_add] at q2
        rw [show off + j = off + (j / 2 * 2 + 1) by omega]
        exact q2
    · obtain ⟨i, hi', rfl⟩ := List.getElem_of_mem hp
      exact (hps i _ (List.getElem?_eq_getElem hi')).2.2.1
    · obtain ⟨i, hi', rfl⟩ := List.getElem_of_mem hp
      exact (hps i _ (List.getElem?_eq_getElem hi')).2.2.2
theorem ORow.form {w : World} {F : Nat → Prop} {x : Value} {ps : List (Value × Pure.Opt)} (h : ORow w F x ps) : ∃ A c, x = .slice A ps.length c ∧ ps.length ≤ c := by
  obtain ⟨_, _, A, c, rfl, hc, _⟩ := h.out
  exact ⟨A, c, rfl, hc⟩
/-- One of its options. -/
theorem ORow.pick {w : World} {F : Nat → Prop} {X : Option Addr} {n cx : Nat} {ps : List (Value × Pure.Opt)} (h : ORow w F (.slice X n cx) ps) (k : Nat) (hk : k < ps.length) :
    ∃ p o A c t bs, X = some ⟨p, o, none⟩ ∧ F p ∧ w.cell? ⟨p, o + k * 2, none⟩ = some (.int .i64 t) ∧ w.cell? ⟨p, o + k * 2 + 1, none⟩ = some (.slice A bs.length c) ∧ Row w F 1 (.slice A bs.length c) bs.length (u8s bs) ∧ ps[k]? = some (.slice A bs.length c, t, bs) := by
  obtain ⟨_, _, A', c', e, _, _, hh⟩ := h.out
  obtain ⟨p, o, rfl, hF, hc⟩ := hh (by omega)
  injection e with e1 _ _
  have hget := List.getElem?_eq_getElem hk
  have hr := h.rows ps[k] (List.getElem_mem hk)
  obtain ⟨A, c, hform, _⟩ := hr.form
  obtain ⟨o1, o2⟩ := optCells_at ps k _ hget
  have c1 := hc _ _ o1
  have c2 := hc _ _ o2
  rw [hform] at c2 hr
  rw [← Nat.add_assoc] at c2
  rw [Nat.mul_comm 2 k] at c1 c2
  refine ⟨p, o, A, c, ps[k].2.1, ps[k].2.2, e1, hF, c1, c2, hr, ?_⟩
  rw [hget, ← hform]
end Go.Proofs.Ytjomcffhbaplcaa
/- A region that asks the tape for its order and whose last operation, for which all others are waited, may write what the others read: a condition S is shown behind each of the others alone. -/
namespace Go.Proofs.Ytjomcffhbaplcaa
section
variable {P : Program} {ops : Array Oper} {Q : Exit → Act → World → Prop} {md : Region.Mode} {S : World → Prop} {z : Nat}

/-- Whatever order is picked from here on; behind every operation but z the condition holds. -/
def wpAnyZ (P : Program) (md : Region.Mode) (ops : Array Oper) (Q : Exit → Act → World → Prop) (S : World → Prop) (z : Nat) : Nat → Array Bool → Act → World → Prop
  | 0, listed, a, w => Region.ready md ops listed = [] ∧ Q .normal a w
  | fuel + 1, listed, a, w =>
    (Region.ready md ops listed = [] → Q .normal a w) ∧
    ∀ i ∈ Region.ready md ops listed, wpOp P ops Q i (fun a' w' => (i ≠ z → S w') ∧ wpAnyZ P md ops Q S z fuel (listed.setIfInBounds i true) a' w') a w

theorem wpAny_of_Z : ∀ (fuel : Nat) (listed : Array Bool) (a : Act) (w : World), wpAnyZ P md ops Q S z fuel listed a w → wpAny P md ops Q fuel listed a w
  | 0, _, _, _, h => h
  | fuel + 1, _, _, _, h => ⟨h.1, fun i hi => wpOp_mono (fun a' w' h' => wpAny_of_Z fuel _ a' w' h'.2) (h.2 i hi)⟩

/-- z waits for i, by edges one behind the other. -/
inductive Waits (md : Region.Mode) (ops : Array Oper) (z : Nat) : Nat → Prop
  | one {o : Oper} {e : Edge} (ho : ops[z]? = some o) (he : e ∈ o.after) (hb : Region.binds md e = true) : Waits md ops z e.on
  | more {k : Nat} {o : Oper} {e : Edge} (h : Waits md ops z k) (ho : ops[k]? = some o) (he : e ∈ o.after) (hb : Region.binds md e = true) : Waits md ops z e.on
/-- The edges of one are marked. -/
def markAll (md : Region.Mode) : List Edge → Array Bool → Array Bool
  | [], r => r
  | e :: es, r => markAll md es (if Region.binds md e = true then r.setIfInBounds e.on true else r)
/-- From the last one down. -/
def reachDown (md : Region.Mode) (ops : Array Oper) : Nat → Array Bool → Array Bool
  | 0, r => r
  | k + 1, r => reachDown md ops k (if r.getD k false = true then (match ops[k]? with | some o => markAll md o.after.toList r | none => r) else r)
def waitsFor (md : Region.Mode) (ops : Array Oper) (z i : Nat) : Bool := (reachDown md ops ops.size ((Array.replicate ops.size false).setIfInBounds z true)).getD i false && i != z
theorem getD_set_cases {r : Array Bool} {i j : Nat} (h : (r.setIfInBounds i true).getD j false = true) : j = i ∨ r.getD j false = true := by
  by_cases hij : i = j
  · exact .inl hij.symm
  · rw [getD_set_ne false hij] at h
    exact .inr h
theorem markAll_sound {z : Nat} (hz : ∀ e, Region.binds md e = true → (∃ k o, ops[k]? = some o ∧ e ∈ o.after ∧ (k = z ∨ Waits md ops z k)) → Waits md ops z e.on) :
    ∀ (es : List Edge) (r : Array Bool), (∀ e ∈ es, ∃ k o, ops[k]? = some o ∧ e ∈ o.after ∧ (k = z ∨ Waits md ops z k)) → (∀ j, r.getD j false = true → j = z ∨ Waits md ops z j) →
      ∀ j, (markAll md es r).getD j false = true → j = z ∨ Waits md ops z j
  | [], _, _, hr => hr
  | e :: es, r, he, hr => by
    refine markAll_sound hz es _ (fun e' h' => he e' (by simp [h'])) (fun j hj => ?_)
    split at hj
    · rename_i hb
      rcases getD_set_cases hj with rfl | hj
      · exact .inr (hz e hb (he e (by simp)))
      · exact hr j hj
    · exact hr j hj
theorem waits_of_edge {z : Nat} (e : Edge) (hb : Region.binds md e = true) (h : ∃ k o, ops[k]? = some o ∧ e ∈ o.after ∧ (k = z ∨ Waits md ops z k)) : Waits md ops z e.on := by
  obtain ⟨k, o, ho, he, rfl | hk⟩ := h
  · exact .one ho he hb
  · exact .more hk ho he hb
theorem reachDown_sound {z : Nat} : ∀ (k : Nat) (r : Array Bool), (∀ j, r.getD j false = true → j = z ∨ Waits md ops z j) → ∀ j, (reachDown md ops k r).getD j false = true → j = z ∨ Waits md ops z j
  | 0, _, hr => hr
  | k + 1, r, hr => by
    refine reachDown_sound k _ (fun j hj => ?_)
    split at hj
    · rename_i hk
      cases ho : ops[k]? with
      | none => rw [ho] at hj; exact hr j hj
      | some o =>
        rw [ho] at hj
        exact markAll_sound (fun e hb h => waits_of_edge e hb h) o.after.toList r (fun e he => ⟨k, o, ho, by simpa using he, hr k hk⟩) hr j hj
    · exact hr j hj
theorem rep_false (n j : Nat) : (Array.replicate n false).getD j false = false := by
  rw [Array.getD_eq_getD_getElem?, Array.getElem?_replicate]
  split <;> rfl
theorem waits_of_waitsFor {z i : Nat} (h : waitsFor md ops z i = true) : Waits md ops z i := by
  unfold waitsFor at h
  simp only [Bool.and_eq_true, bne_iff_ne, ne_eq] at h
  rcases reachDown_sound (md := md) (ops := ops) (z := z) ops.size _ (fun j hj => by
    rcases getD_set_cases hj with rfl | hj
    · exact .inl rfl
    · rw [rep_false] at hj
      cases hj) i h.1 with h1 | h1
  · exact absurd h1 h.2
  · exact h1
/-- What has come up has had all that it waits for come up. -/
def Closed (md : Region.Mode) (ops : Array Oper) (listed : Array Bool) : Prop :=
  ∀ (j : Nat) (o : Oper), ops[j]? = some o → listed.getD j false = true → ∀ e ∈ o.after, Region.binds md e = true → listed.getD e.on false = true
def closedB (md : Region.Mode) (ops : Array Oper) (listed : Array Bool) : Bool :=
  (List.range ops.size).all fun j => !listed.getD j false || match ops[j]? with
    | none => true
    | some o => o.after.all fun e => !Region.binds md e || listed.getD e.on false
theorem closed_of {listed : Array Bool} (h : closedB md ops listed = true) : Closed md ops listed := by
  intro j o ho hl e he hb
  simp only [closedB, List.all_eq_true, List.mem_range] at h
  have := h j (Array.getElem?_eq_some_iff.1 ho).1
  rw [hl, ho] at this
  simp only [Bool.not_true, Bool.false_or] at this
  have := Array.all_eq_true'.1 this e he
  rw [hb] at this
  simpa using this
theorem Closed.set {listed : Array Bool} (h : Closed md ops listed) {i : Nat} (hr : i ∈ Region.ready md ops listed) : Closed md ops (listed.setIfInBounds i true) := by
  intro j o ho hl e he hb
  by_cases hij : i = j
  · subst hij
    obtain ⟨_, o', ho', hall⟩ := mem_ready.1 hr
    rw [ho] at ho'
    injection ho' with ho'
    subst ho'
    exact getD_set_true (hall e he hb)
  · rw [getD_set_ne false hij] at hl
    exact getD_set_true (h j o ho hl e he hb)
theorem waits_listed {listed : Array Bool} (hc : Closed md ops listed) {z i : Nat} (h : Waits md ops z i) (hz : ∀ o, ops[z]? = some o → ∀ e ∈ o.after, Region.binds md e = true → listed.getD e.on false = true) : listed.getD i false = true := by
  induction h with
  | one ho he hb => exact hz _ ho _ he hb
  | more _ ho he hb ih => exact hc _ _ ho ih _ he hb
theorem waitsFor_not_ready {i : Nat} {listed : Array Bool} (hc : Closed md ops listed) (h : waitsFor md ops z i = true) (hi : listed.getD i true = false) (hs : i < listed.size) : z ∉ Region.ready md ops listed := by
  intro hz
  obtain ⟨_, o, ho, hall⟩ := mem_ready.1 hz
  have h1 := waits_listed hc (waits_of_waitsFor h) (fun o' ho' e he hb => by
    rw [ho] at ho'
    injection ho' with ho'
    subst ho'
    exact hall e he hb)
  simp [hs] at h1 hi
  rw [hi] at h1
  cases h1

theorem wpAnyZ_first {i : Nat} {oi : Oper} {v : Value} (hi : ops[i]? = some oi) (hsel : ∀ (j : Nat) (o : Oper) cs b, ops[j]? = some o → o.op ≠ .select cs b)
    (hQ : ∀ c a w, Q (.panic c) (a.put oi.dst v) w → Q (.panic c) a w) (hz : waitsFor md ops z i = true) :
    ∀ (fuel : Nat) (listed : Array Bool) (a : Act) (w : World),
      (∀ j oj, ops[j]? = some oj → j ≠ i → listed.getD j true = false → (∀ e ∈ oj.after, Region.binds md e = true → e.on ≠ i) → oi.apart ops oj = true) →
      Closed md ops listed → i < listed.size → i ∈ Region.ready md ops listed → YieldsIf P ops S oi v a → S w →
      wpAnyZ P md ops Q S z fuel (listed.setIfInBounds i true) (a.put oi.dst v) w → wpAnyZ P md ops Q S z (fuel + 1) listed a w := by
  intro fuel
  induction fuel with
  | zero =>
    intro listed a w _ _ _ hr hy hS H
    refine ⟨fun h => (by rw [h] at hr; cases hr), fun j hj => ?_⟩
    by_cases hji : j = i
    · subst hji; exact hy.wpOp hi hS ⟨fun _ => hS, H⟩
    · have := ready_mono hj hji
      rw [H.1] at this
      cases this
  | succ fuel ih =>
    intro listed a w hfree hcl hsz hr hy hS H
    refine ⟨fun h => (by rw [h] at hr; cases hr), fun j hj => ?_⟩
    by_cases hji : j = i
    · subst hji; exact hy.wpOp hi hS ⟨fun _ => hS, H⟩
    · have hjz : j ≠ z := fun e => waitsFor_not_ready hcl hz (mem_ready.1 hr).1 hsz (e ▸ hj)
      have h1 := H.2 j (ready_mono hj hji)
      obtain ⟨hjun, oj, hoj, hall⟩ := mem_ready.1 hj
      have hnot : ∀ e ∈ oj.after, Region.binds md e = true → e.on ≠ i := fun e he hb heq => by
        have h1 := hall e he hb
        have h0 := (mem_ready.1 hr).1
        rw [heq] at h1
        simp [hsz] at h0 h1
        rw [h0] at h1
        cases h1
      have h2 := wpOp_putIf hoj (hfree j oj hoj hji hjun hnot) (fun cs b => hsel i oi cs b hi) (fun cs b => hsel j oj cs b hoj) hQ hy h1
      have hfree' : ∀ k ok, ops[k]? = some ok → k ≠ i → (listed.setIfInBounds j true).getD k true = false →
          (∀ e ∈ ok.after, Region.binds md e = true → e.on ≠ i) → oi.apart ops ok = true := fun k ok hk hki hun hno => by
        refine hfree k ok hk hki ?_ hno
        by_cases hjk : j = k
        · subst hjk; exact hjun
        · rw [getD_set_ne true hjk] at hun; exact hun
      refine wpOp_mono (fun a' w' h3 => ⟨fun _ => h3.2.1 hjz, ih (listed.setIfInBounds j true) a' w' hfree' (hcl.set hj) (by simpa using hsz) (ready_mono hr (Ne.symm hji)) h3.1 (h3.2.1 hjz) ?_⟩) h2
      rw [Array.setIfInBounds_comm _ _ hji]
      exact h3.2.2

/-- Take number i first. -/
theorem wpAnyZ_take {i : Nat} {oi : Oper} {v : Value} {fuel : Nat} {listed : Array Bool} {a : Act} {w : World} (hi : ops[i]? = some oi)
    (hc : (Region.noSelect ops && Region.free md ops listed i && (Region.ready md ops listed).contains i && waitsFor md ops z i && decide (i < listed.size) && closedB md ops listed) = true)
    (hQ : ∀ c a w, Q (.panic c) (a.put oi.dst v) w → Q (.panic c) a w) (hy : YieldsIf P ops S oi v a) (hS : S w)
    (h : wpAnyZ P md ops Q S z fuel (listed.setIfInBounds i true) (a.put oi.dst v) w) : wpAnyZ P md ops Q S z (fuel + 1) listed a w := by
  simp only [Bool.and_eq_true, decide_eq_true_eq] at hc
  obtain ⟨⟨⟨⟨⟨h1, h2⟩, h3⟩, h4⟩, h5⟩, h6⟩ := hc
  exact wpAnyZ_first hi (Region.noSelect_spec h1) hQ h4 fuel listed a w (Region.free_spec hi h2) (closed_of h6) h5 (by simpa using h3) hy hS h

/-- The one that may come up, and all that follows. -/
theorem wpAnyZ_one {i : Nat} {o : Oper} {fuel : Nat} {listed : Array Bool} {a : Act} {w : World} (hr : Region.ready md ops listed = [i]) (ho : ops[i]? = some o)
    (h : ∀ K' : Act → World → Prop, Shut (∀ a w, (i ≠ z → S w) → wpAnyZ P md ops Q S z fuel (listed.setIfInBounds i true) a w → K' a w) →
      if Region.wanted o (yielded ops a.tmps) = true then Oper.wp P o a w K' Q else K' (a.put o.dst undef) w) : wpAnyZ P md ops Q S z (fuel + 1) listed a w :=
  ⟨fun h0 => (by rw [h0] at hr; cases hr), fun j hj => by
    rw [hr] at hj
    obtain rfl : j = i := by simpa using hj
    exact wpOp_step ho (fun K' hK => h K' (fun a w hS hW => hK a w ⟨hS, hW⟩))⟩

/-- The first n have come up. -/
def marks (size : Nat) : Nat → Array Bool
  | 0 => Array.replicate size false
  | n + 1 => (marks size n).setIfInBounds n true
/-- The walk in the text's order: number n yields its value in every world that meets S. -/
theorem wpAnyZ_next {n size : Nat} {oi : Oper} {v : Value} {fuel : Nat} {a : Act} {w : World} (hi : ops[n]? = some oi)
    (hc : (Region.noSelect ops && Region.free md ops (marks size n) n && (Region.ready md ops (marks size n)).contains n && waitsFor md ops z n && decide (n < (marks size n).size) && closedB md ops (marks size n)) = true)
    (hQ : ∀ c a w, Q (.panic c) (a.put oi.dst v) w → Q (.panic c) a w) (hy : YieldsIf P ops S oi v a) (hS : S w)
    (h : wpAnyZ P md ops Q S z fuel (marks size (n + 1)) (a.put oi.dst v) w) : wpAnyZ P md ops Q S z (fuel + 1) (marks size n) a w :=
  wpAnyZ_take hi hc hQ hy hS h
/-- In the text's order: the one that may come up. -/
theorem wpAnyZ_step {n size : Nat} {o : Oper} {fuel : Nat} {a : Act} {w : World} (hr : Region.ready md ops (marks size n) = [n]) (ho : ops[n]? = some o)
    (h : ∀ K' : Act → World → Prop, Shut (∀ a w, (n ≠ z → S w) → wpAnyZ P md ops Q S z fuel (marks size (n + 1)) a w → K' a w) →
      if Region.wanted o (yielded ops a.tmps) = true then Oper.wp P o a w K' Q else K' (a.put o.dst undef) w) : wpAnyZ P md ops Q S z (fuel + 1) (marks size n) a w :=
  wpAnyZ_one hr ho h

theorem wpAnyZ_two {i j : Nat} {o o' : Oper} {fuel : Nat} {listed : Array Bool} {a : Act} {w : World} (hr : Region.ready md ops listed = [i, j]) (ho : ops[i]? = some o) (ho' : ops[j]? = some o')
    (h : ∀ K' : Act → World → Prop, Shut (∀ a w, (i ≠ z → S w) → wpAnyZ P md ops Q S z fuel (listed.setIfInBounds i true) a w → K' a w) →
      if Region.wanted o (yielded ops a.tmps) = true then Oper.wp P o a w K' Q else K' (a.put o.dst undef) w)
    (h' : ∀ K' : Act → World → Prop, Shut (∀ a w, (j ≠ z → S w) → wpAnyZ P md ops Q S z fuel (listed.setIfInBounds j true) a w → K' a w) →
      if Region.wanted o' (yielded ops a.tmps) = true then Oper.wp P o' a w K' Q else K' (a.put o'.dst undef) w) : wpAnyZ P md ops Q S z (fuel + 1) listed a w :=
  ⟨fun h0 => (by rw [h0] at hr; cases hr), fun k hk => by
    rw [hr] at hk
    rcases List.mem_cons.1 hk with rfl | hk
    · exact wpOp_step ho (fun K' hK => h K' (fun a w hS hW => hK a w ⟨hS, hW⟩))
    · obtain rfl : k = j := by simpa using hk
      exact wpOp_step ho' (fun K' hK => h' K' (fun a w hS hW => hK a w ⟨hS, hW⟩))⟩
theorem wpAnyZ_done {listed : Array Bool} {a : Act} {w : World} (hr : Region.ready md ops listed = []) (h : Q .normal a w) :
    ∀ fuel, wpAnyZ P md ops Q S z fuel listed a w
  | 0 => ⟨hr, h⟩
  | _ + 1 => ⟨fun _ => h, by rw [hr]; simp⟩

/-- From here on more may be asked of each world. -/
theorem wpAnyZ_more {S' : World → Prop} (hS : ∀ w, S' w → S w) : ∀ (fuel : Nat) (listed : Array Bool) (a : Act) (w : World), wpAnyZ P md ops Q S' z fuel listed a w → wpAnyZ P md ops Q S z fuel listed a w
  | 0, _, _, _, h => h
  | fuel + 1, _, _, _, h => ⟨h.1, fun i hi => wpOp_mono (fun a' w' h' => ⟨fun hz => hS _ (h'.1 hz), wpAnyZ_more hS fuel _ a' w' h'.2⟩) (h.2 i hi)⟩

theorem wp_region_Z {id : Nat} {a : Act} {w : World} (S : World → Prop) (z size : Nat) (hsz : ops.size = size) (hm : P.follows .mixedOrders = true) (hS : S w.drew)
    (h : Go.RowKit.Hid (S w.drew) → wpAnyZ P .any ops Q S z size (marks size 0) a w.drew) : (Code.region id ops true).wp P Q a w :=
  wp_region_any hm (by rw [hsz]; exact wpAny_of_Z size _ _ _ (h hS))
end
end Go.Proofs.Ytjomcffhbaplcaa
/- A row stored whole. -/
namespace Go.Proofs.Ytjomcffhbaplcaa
open Go.RowKit
theorem Keeps.rowSet {S : Nat → Prop} {a w : World} {g : Nat} (h : Keeps S a w) (hp : g < a.heap.size → S g) (cs : Array Value) : Keeps S a (w.setRow g cs) :=
  ⟨h.os, h.tape, h.output, by simpa using h.size, fun k hk hs => (setRow_other w g k cs (fun e => hs (e ▸ hp (e ▸ hk)))).trans (h.block k hk hs)⟩
theorem Blk.rowSet {w : World} {g : Nat} {t : TypeId} {old : Array Value} (h : Blk w g t old) (cs : Array Value) : Blk (w.setRow g cs) g t cs := setRow_heap w g old cs t (0, 0) h
theorem all_ints (l : List Nat) : (l.map fun (b : Nat) => Value.int .i64 (b : Int)).toArray.all (·.oneCell') = true := by simp [Value.oneCell']
theorem all_words (l : List UInt32) : (l.map fun (b : UInt32) => Value.int .u32 b.toNat).toArray.all (·.oneCell') = true := by simp [Value.oneCell']
theorem exec_load_row {P : Program} {o : Oper} {a : Act} {w : World} (ty : TypeId) (x : Operand) (ho : o.op = .load ty x)
    (g : Nat) (hx : a.eval x = .pointer (some ⟨g, 0, none⟩)) (t : TypeId) (cs : Array Value) (fr : Nat × Nat) (d : TypeDesc) (hg : w.heap[g]? = some (.cells cs t fr))
    (hu : P.underlying ty = some d) (hd : (match d with | .struct _ | .array _ _ => true | _ => false) = true) (hi : (P.info? ty).map (·.size) = some cs.size) :
    (execOp a.eval o).run P w = .ok (.value (.agg cs)) w := by
  unfold execOp
  simp only [ho, hx, Instr.loadAt, Instr.sureAddr, Sem.run_bind, Sem.run_pure, Result.andThen_ok, run_loadVar_row w g t ty cs fr d hg hu hd hi]

end Go.Proofs.Ytjomcffhbaplcaa
/- The document's comparing of options. -/
namespace Go.Proofs.Ytjomcffhbaplcaa
open Go.RowKit
abbrev optV (p : Value × Pure.Opt) : Value := .agg #[.int .i64 p.2.1, p.1]
set_option maxRecDepth 100000 in
set_option maxHeartbeats 2000000 in
theorem docone_any (F G : Nat → Prop) (v u : Value) (a b : Pure.Opt) (w : World) (hx : Row w F 1 v a.2.length (u8s a.2)) (hy : Row w G 1 u b.2.length (u8s b.2)) :
    Calls Try.prog 30 #[optV (v, a), optV (u, b)] w fun e w' => e = .returned (.bool (decide (a = b))) ∧ Keeps nobody w w' := by
  obtain ⟨A, cA, rfl, hc⟩ := hx.form
  obtain ⟨B, cB, rfl, hd⟩ := hy.form
  obtain ⟨s, la⟩ := a
  obtain ⟨t, lb⟩ := b
  dsimp only at *
  have HX := Lib.hid hx
  have HY := Lib.hid hy
  clear hx hy
  obtain ⟨g, hg⟩ : ∃ g, g = w.heap.size := ⟨_, rfl⟩
  go_enter Try.func30, Try.ntmps30
  go_upto_region 1 with fail
  obtain ⟨w1, hw1⟩ : ∃ w1, w1 = (w.alloc (.cells #[.int .i64 s, .slice A la.length cA] 32)).alloc (.cells #[.int .i64 t, .slice B lb.length cB] 32) := ⟨_, rfl⟩
  rw [← hw1, ← hg]
  have hb1 : Blk w1 g 32 #[.int .i64 s, .slice A la.length cA] := by rw [hw1, hg]; exact (Blk.new w _ _).alloc _
  have hb2 : Blk w1 (g + 1) 32 #[.int .i64 t, .slice B lb.length cB] := by
    rw [hw1, hg]
    have := Blk.new (w.alloc (.cells #[.int .i64 s, .slice A la.length cA] 32)) 32 #[.int .i64 t, .slice B lb.length cB]
    rw [World.size_alloc] at this
    exact this
  have hk : Keeps nobody w w1 := by rw [hw1]; exact ((Keeps.refl _ w).alloc _).alloc _
  have a0 : w1.cell? ⟨g, 0, none⟩ = some (.int .i64 s) := by rw [hb1.cell]; rfl
  have a1 : w1.cell? ⟨g, 1, none⟩ = some (.slice A la.length cA) := by rw [hb1.cell]; rfl
  have b0 : w1.cell? ⟨g + 1, 0, none⟩ = some (.int .i64 t) := by rw [hb2.cell]; rfl
  have b1 : w1.cell? ⟨g + 1, 1, none⟩ = some (.slice B lb.length cB) := by rw [hb2.cell]; rfl
  have HS := Lib.hid (same_any F G _ _ la lb w1 (HX.out.keeps hk (fun _ _ h => h)) (HY.out.keeps hk (fun _ _ h => h)))
  have HK := Lib.hid hk
  clear hw1 hb1 hb2 hk hg
  by_cases hst : s = t
  · have d0 : (s == t) = true := by rw [hst]; exact beq_self_eq_true t
    have hdec : decide ((s, la) = (t, lb)) = decide (la = lb) := by rw [hst]; simp
    have HD := Lib.hid hdec
    obtain ⟨r, hr⟩ : ∃ r, r = decide (la = lb) := ⟨_, rfl⟩
    rw [← hr] at HS HD
    clear hst hdec hr
    go_wp2_with fail
    refine HS.out.mono ?_
    rintro e w2 ⟨rfl, hk2⟩
    have HK2 := Lib.hid (HK.out.trans hk2)
    clear hk2 HS
    cases r
    · go_wp2
      go_ret
      exact ⟨by rw [HD.out]; rfl, HK2.out⟩
    · go_wp2
      go_ret
      exact ⟨by rw [HD.out]; rfl, HK2.out⟩
  · have d0 : (s == t) = false := by rw [beq_eq_false_iff_ne]; exact hst
    have HD := Lib.hid (show decide ((s, la) = (t, lb)) = false from decide_eq_false (fun e => hst (congrArg Prod.fst e)))
    clear hst HS
    go_wp2
    go_ret
    exact ⟨by rw [HD.out]; rfl, HK.out⟩
end Go.Proofs.Ytjomcffhbaplcaa
