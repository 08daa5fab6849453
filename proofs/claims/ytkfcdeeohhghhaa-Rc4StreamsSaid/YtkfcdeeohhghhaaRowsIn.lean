/- A slice of slices of bytes, as a walk meets it. -/
import Derived.Test.YtkfcdeeohhghhaaFrame
import Derived.Test.YtkfcdeeohhghhaaBase
namespace Go.Proofs.Ytkfcdeeohhghhaa
open Go.RowKit

/-- A slice of slices of bytes. -/
structure FRow (w : World) (F : Nat → Prop) (x : Value) (ps : List (Value × List UInt8)) : Prop where
  out : Row w F 1 x ps.length (ps.map Prod.fst)
  rows : ∀ p ∈ ps, Row w F 1 p.1 p.2.length (u8s p.2)
theorem FRow.keeps {S F : Nat → Prop} {w w' : World} {x : Value} {ps : List (Value × List UInt8)} (h : FRow w F x ps) (k : Keeps S w w') (hs : ∀ b, F b → ¬ S b) : FRow w' F x ps :=
  ⟨h.out.keeps k hs, fun p hp => (h.rows p hp).keeps k hs⟩

/-- A [][]byte that came in: rows of bytes. -/
theorem frows_of {w : World} {a : Option Addr} {len cap : Nat} (h : IsStructs w [.row .u8] a len cap) :
    ∃ ps : List (Value × List UInt8), ps.length = len ∧ FRow w (fun b => b < w.heap.size) (.slice a len cap) ps := by
  rcases h with ⟨rfl, rfl, rfl⟩ | ⟨x, rfl, hl, hm, hi⟩
  · exact ⟨[], rfl, Row.nil _ _ _, by simp⟩
  · obtain ⟨ps, hpl, hps⟩ := list_choice (P := fun i (d : Value × List UInt8) => w.cell? (x.add i) = some d.1 ∧ Row w (fun b => b < w.heap.size) 1 d.1 d.2.length (u8s d.2)) len (fun i hil => by
      obtain ⟨v, hv, a', l', c', zs, rfl, hr⟩ := hi i hil 0 _ rfl
      obtain ⟨bs, hbl, hrow⟩ := hr.bytes
      refine ⟨(.slice a' l' c', bs), ?_, ?_⟩
      · simpa using hv
      · rw [← hbl] at hrow ⊢
        exact hrow)
    refine ⟨ps, hpl, ⟨by simp, by omega, some x, cap, by rw [hpl], by omega, by simp, fun h0 => ?_⟩, fun p hp => ?_⟩
    · have h1 := (hps 0 ps[0] (List.getElem?_eq_getElem h0)).1
      obtain ⟨b, off, rfl⟩ := addr_of_cell h1
      rw [addr_add] at h1
      refine ⟨b, off, rfl, cell_lt h1, fun j u hu => ?_⟩
      rw [List.getElem?_map] at hu
      obtain ⟨p, hp, rfl⟩ := Option.map_eq_some_iff.1 hu
      have h2 := (hps j p hp).1
      rwa [addr_add] at h2
    · obtain ⟨i, hi', rfl⟩ := List.getElem_of_mem hp
      exact (hps i _ (List.getElem?_eq_getElem hi')).2

/-- One of its rows. -/
theorem FRow.pick {w : World} {F : Nat → Prop} {X : Option Addr} {n cx : Nat} {ps : List (Value × List UInt8)} (h : FRow w F (.slice X n cx) ps) (k : Nat) (hk : k < ps.length) :
    ∃ p o A c bs, X = some ⟨p, o, none⟩ ∧ p < w.heap.size ∧ w.cell? ⟨p, o + k, none⟩ = some (.slice A bs.length c) ∧ Row w F 1 (.slice A bs.length c) bs.length (u8s bs) ∧ ps[k]? = some (.slice A bs.length c, bs) := by
  obtain ⟨_, _, A', c', e, _, _, hh⟩ := h.out
  obtain ⟨p, o, rfl, hF, hc⟩ := hh (by omega)
  injection e with e1 _ _
  have hr := h.rows ps[k] (List.getElem_mem hk)
  obtain ⟨A, c, hform, _⟩ := hr.form
  have hcell := hc k ps[k].1 (by rw [List.getElem?_map, List.getElem?_eq_getElem hk]; rfl)
  rw [hform] at hcell hr
  refine ⟨p, o, A, c, ps[k].2, e1, cell_lt hcell, hcell, hr, ?_⟩
  rw [List.getElem?_eq_getElem hk, ← hform]
end Go.Proofs.Ytkfcdeeohhghhaa
