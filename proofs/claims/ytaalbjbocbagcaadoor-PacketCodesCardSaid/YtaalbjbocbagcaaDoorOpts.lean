/- A slice of options, as a walk meets it. -/
import Derived.Test.YtaalbjbocbagcaaDoorFrame
import Derived.Test.YtaalbjbocbagcaaDoorBase
import Derived.Test.YtaalbjbocbagcaaDoorPktPure
namespace Go.Proofs.YtaalbjbocbagcaaDoor
open Go.RowKit
/-- The cells of options whose bytes lie where the values say. -/
abbrev optCells (ps : List (Value × Pure.Opt)) : List Value := ps.flatMap fun p => [.int .i64 p.2.1, p.1]
theorem optCells_length (ps : List (Value × Pure.Opt)) : (optCells ps).length = ps.length * 2 := by
  induction ps with
  | nil => rfl
  | cons p ps ih => rw [optCells, List.flatMap_cons, List.length_append, ih]; simp; omega
theorem optCells_at (ps : List (Value × Pure.Opt)) (k : Nat) (p : Value × Pure.Opt) (h : ps[k]? = some p) : (optCells ps)[2 * k]? = some (.int .i64 p.2.1) ∧ (optCells ps)[2 * k + 1]? = some p.1 := by
  induction ps generalizing k with
  | nil => simp at h
  | cons q ps ih =>
    rcases k with _ | k
    · simp at h
      subst h
      exact ⟨rfl, rfl⟩
    · have := ih k (by simpa using h)
      rw [optCells, List.flatMap_cons]
      rw [List.getElem?_append_right (by simp; omega), List.getElem?_append_right (by simp; omega)]
      simpa [Nat.mul_add, Nat.add_assoc] using this
/-- A slice of options. -/
structure ORow (w : World) (F : Nat → Prop) (x : Value) (ps : List (Value × Pure.Opt)) : Prop where
  out : Row w F 2 x ps.length (optCells ps)
  rows : ∀ p ∈ ps, Row w F 1 p.1 p.2.2.length (u8s p.2.2)
theorem ORow.keeps {S F : Nat → Prop} {w w' : World} {x : Value} {ps : List (Value × Pure.Opt)} (h : ORow w F x ps) (k : Keeps S w w') (hs : ∀ b, F b → ¬ S b) : ORow w' F x ps :=
  ⟨h.out.keeps k hs, fun p hp => (h.rows p hp).keeps k hs⟩
theorem ORow.mono {F G : Nat → Prop} {w : World} {x : Value} {ps : List (Value × Pure.Opt)} (h : ORow w F x ps) (hG : ∀ b, F b → G b) : ORow w G x ps :=
  ⟨h.out.mono hG, fun p hp => (h.rows p hp).mono hG⟩
theorem ORow.nil (w : World) (F : Nat → Prop) : ORow w F (.slice none 0 0) [] := ⟨Row.nil _ _ _, by simp⟩
/-- A []api.Option that came in. -/
theorem opts_of {w : World} {a : Option Addr} {len cap : Nat} (h : IsStructs w [.int .i64, .row .u8] a len cap) :
    ∃ ps : List (Value × Pure.Opt), ps.length = len ∧ ORow w (fun b => b < w.heap.size) (.slice a len cap) ps ∧ ∀ p ∈ ps, -9223372036854775808 ≤ p.2.1 ∧ p.2.1 ≤ 9223372036854775807 := by
  rcases h with ⟨rfl, rfl, rfl⟩ | ⟨x, rfl, hl, hm, hi⟩
  · exact ⟨[], rfl, ORow.nil _ _, by simp⟩
  · obtain ⟨ps, hpl, hps⟩ := list_choice (P := fun i (d : Value × Pure.Opt) => w.cell? (x.add (i * 2)) = some (.int .i64 d.2.1) ∧ w.cell? (x.add (i * 2 + 1)) = some d.1 ∧ Row w (fun b => b < w.heap.size) 1 d.1 d.2.2.length (u8s d.2.2) ∧ (-9223372036854775808 ≤ d.2.1 ∧ d.2.1 ≤ 9223372036854775807)) len (fun i hil => by
      obtain ⟨u, hu, n, rfl, hn⟩ := hi i hil 0 _ rfl
      obtain ⟨v, hv, a', l', c', zs, rfl, hr⟩ := hi i hil 1 _ rfl
      obtain ⟨bs, hbl, hrow⟩ := hr.bytes
      refine ⟨(.slice a' l' c', n, bs), by simpa using hu, by simpa using hv, ?_, i64_of_wf hn⟩
      rw [← hbl] at hrow ⊢
      exact hrow)
    refine ⟨ps, hpl, ⟨⟨by rw [optCells_length], by omega, some x, cap, by rw [hpl], by omega, by simp, fun h0 => ?_⟩, fun p hp => ?_⟩, fun p hp => ?_⟩
    · have h1 := (hps 0 ps[0] (List.getElem?_eq_getElem h0)).1
      obtain ⟨b, off, rfl⟩ := addr_of_cell h1
      rw [addr_add] at h1
      refine ⟨b, off, rfl, cell_lt h1, fun j u hu => ?_⟩
      have hj : j < ps.length * 2 := by
        have := (List.getElem?_eq_some_iff.1 hu).1
        rwa [optCells_length] at this
      have hk : j / 2 < ps.length := by omega
      obtain ⟨q1, q2, _, _⟩ := hps (j / 2) _ (List.getElem?_eq_getElem hk)
      obtain ⟨o1, o2⟩ := optCells_at ps (j / 2) _ (List.getElem?_eq_getElem hk)
      rcases (show j = 2 * (j / 2) ∨ j = 2 * (j / 2) + 1 by omega) with e | e
      · rw [e, o1] at hu
        injection hu with hu
        subst hu
        rw [addr_add] at q1
        rw [show off + j = off + j / 2 * 2 by omega]
        exact q1
      · rw [e, o2] at hu
        injection hu with hu
        subst hu
        rw [addr_add] at q2
        rw [show off + j = off + (j / 2 * 2 + 1) by omega]
        exact q2
    · obtain ⟨i, hi', rfl⟩ := List.getElem_of_mem hp
      exact (hps i _ (List.getElem?_eq_getElem hi')).2.2.1
    · obtain ⟨i, hi', rfl⟩ := List.getElem_of_mem hp
      exact (hps i _ (List.getElem?_eq_getElem hi')).2.2.2
theorem ORow.form {w : World} {F : Nat → Prop} {x : Value} {ps : List (Value × Pure.Opt)} (h : ORow w F x ps) : ∃ A c, x = .slice A ps.length c ∧ ps.length ≤ c := by
  obtain ⟨_, _, A, c, rfl, hc, _⟩ := h.out
  exact ⟨A, c, rfl, hc⟩
/-- One of its options. -/
theorem ORow.pick {w : World} {F : Nat → Prop} {X : Option Addr} {n cx : Nat} {ps : List (Value × Pure.Opt)} (h : ORow w F (.slice X n cx) ps) (k : Nat) (hk : k < ps.length) :
    ∃ p o A c t bs, X = some ⟨p, o, none⟩ ∧ F p ∧ w.cell? ⟨p, o + k * 2, none⟩ = some (.int .i64 t) ∧ w.cell? ⟨p, o + k * 2 + 1, none⟩ = some (.slice A bs.length c) ∧ Row w F 1 (.slice A bs.length c) bs.length (u8s bs) ∧ ps[k]? = some (.slice A bs.length c, t, bs) := by
  obtain ⟨_, _, A', c', e, _, _, hh⟩ := h.out
  obtain ⟨p, o, rfl, hF, hc⟩ := hh (by omega)
  injection e with e1 _ _
  have hget := List.getElem?_eq_getElem hk
  have hr := h.rows ps[k] (List.getElem_mem hk)
  obtain ⟨A, c, hform, _⟩ := hr.form
  obtain ⟨o1, o2⟩ := optCells_at ps k _ hget
  have c1 := hc _ _ o1
  have c2 := hc _ _ o2
  rw [hform] at c2 hr
  rw [← Nat.add_assoc] at c2
  rw [Nat.mul_comm 2 k] at c1 c2
  refine ⟨p, o, A, c, ps[k].2.1, ps[k].2.2, e1, hF, c1, c2, hr, ?_⟩
  rw [hget, ← hform]
end Go.Proofs.YtaalbjbocbagcaaDoor
