/- A slice of make's that is filled byte by byte. -/
import Derived.Test.YtkllaghfiofnjaaDoorBase
namespace Go.Proofs.YtkllaghfiofnjaaDoor
open Go.RowKit

theorem made_cells {z : Array Value} (hz : z = #[.int .u8 0]) (n : Nat) : (madeCells z (n * 1)).toList = u8s (List.replicate n 0) := by
  subst hz
  simp only [madeCells, Nat.mul_one]
  apply List.ext_getElem?
  intro i
  rw [Array.toList_map, List.getElem?_map, List.getElem?_map]
  by_cases h : i < n
  · simp [h, Nat.mod_one]
  · simp [h]

theorem own_set {w : World} {base : Nat} {e : TypeId} {b n c k : Nat} {l : List UInt8} (h : w.ownsRow base e 1 (.slice (some ⟨b, 0, none⟩) n c) n (u8s l)) (x : UInt8) :
    (w.setCell ⟨b, k, none⟩ (.int .u8 x.toNat)).ownsRow base e 1 (.slice (some ⟨b, 0, none⟩) n c) n (u8s (l.set k x)) := by
  obtain ⟨h1, h2⟩ := h
  refine ⟨by simpa using h1, ?_⟩
  rcases h2 with ⟨e, _⟩ | ⟨g, cap, cur, e, hg, hh, h3, h4, h5, h6⟩
  · cases e
  · injection e with e1 e2 e3
    injection e1 with e1
    injection e1 with e1
    subst e1 e3
    have hb : Blk w b _ cur := hh
    refine .inr ⟨b, c, _, rfl, hg, hb.set k (.int .u8 x.toNat), h3, h4, by simpa using h5, ?_⟩
    rw [Array.toList_setIfInBounds, List.take_set, h6]
    simp [List.map_set]

theorem set_next (l : List UInt8) (n : Nat) (k : Nat) (hk : l.length = k) (hn : k < n) (V : UInt8) : (l ++ List.replicate (n - k) 0).set k V = (l ++ [V]) ++ List.replicate (n - (k + 1)) 0 := by
  subst hk
  have e : n - l.length = (n - (l.length + 1)) + 1 := by omega
  rw [e, List.replicate_succ, List.set_append_right _ _ (Nat.le_refl _), Nat.sub_self, List.set_cons_zero, List.append_assoc]
  rfl

theorem own_frozen {w : World} {base : Nat} {e : TypeId} {b n c : Nat} {xs : List Value} (h : w.ownsRow base e 1 (.slice (some ⟨b, 0, none⟩) n c) n xs) (k : Nat) : w.frozen? ⟨b, k, none⟩ = false := by
  rcases h.2 with ⟨e, _⟩ | ⟨g, cap, cur, e, _, hh, _⟩
  · cases e
  · injection e with e1 _ _
    injection e1 with e1
    injection e1 with e1
    subst e1
    have hb : Blk w b _ cur := hh
    exact hb.frozen k

theorem own_at {w : World} {base : Nat} {e : TypeId} {b n c : Nat} {l : List UInt8} (h : w.ownsRow base e 1 (.slice (some ⟨b, 0, none⟩) n c) n (u8s l)) (k : Nat) (hk : k < l.length) : w.cell? ⟨b, k, none⟩ = some (.int .u8 ((l.getD k 0).toNat)) := by
  obtain ⟨b', e, _, hc⟩ := own_cell h (by have := h.1; simp at this; omega)
  injection e with e
  injection e with e
  subst e
  exact hc k _ (u8s_at l k hk)
end Go.Proofs.YtkllaghfiofnjaaDoor
