/- Rows of bytes, slices as rows, and the document's Same. -/
import Derived.Test.YtjeekhgkcphnpaaRows
import Derived.Test.YtjeekhgkcphnpaaKit
namespace Go.Proofs.Ytjeekhgkcphnpaa
open Go.RowKit

theorem u8_info : (Try.prog.info? 5).map (fun i => (i.zero, i.size, i.bytes)) = some (some (.int .u8 0), 1, 1) := by kernel_rfl

theorem u8s_cells (l : List UInt8) : ∀ u ∈ l.map (fun b => Value.int .u8 b.toNat), u.oneCell' = true := by
  intro u hu
  obtain ⟨b, _, rfl⟩ := List.mem_map.1 hu
  rfl
/-- The values of bytes. -/
abbrev u8s (l : List UInt8) : List Value := l.map fun b => Value.int .u8 b.toNat

theorem own_form {w : World} {base : Nat} {e : TypeId} {size : Nat} {v : Value} {n : Nat} {xs : List Value} (h : w.ownsRow base e size v n xs) : ∃ A c, v = .slice A n c := by
  rcases h.2 with ⟨rfl, rfl⟩ | ⟨g, cap, cur, rfl, _⟩
  · exact ⟨_, _, rfl⟩
  · exact ⟨_, _, rfl⟩

theorem own_cell {w : World} {base : Nat} {t : TypeId} {A : Option Addr} {n c : Nat} {xs : List Value} (h : w.ownsRow base t 1 (.slice A n c) n xs) (hn : 0 < n) :
    ∃ b, A = some ⟨b, 0, none⟩ ∧ b < w.heap.size ∧ ∀ j u, xs[j]? = some u → w.cell? ⟨b, j, none⟩ = some u := by
  have hr := Row.of_own h
  obtain ⟨_, _, A', c', e, _, _, hh⟩ := hr
  injection e with e1 e2 e3
  subst e1
  obtain ⟨b, off, rfl, hf, hc⟩ := hh hn
  rcases h.2 with ⟨e, _⟩ | ⟨g, cap, cur, e, _, hh, _⟩
  · cases e
  · injection e with e1 e2 e3
    injection e1 with e1
    injection e1 with e1 e4
    subst e1 e4
    have hb : Blk w b t cur := by assumption
    exact ⟨b, rfl, hb.lt, fun j u hu => by have := hc j u hu; rwa [Nat.zero_add] at this⟩
theorem u8s_at (bs : List UInt8) (j : Nat) (h : j < bs.length) : (u8s bs)[j]? = some (.int .u8 ((bs.getD j 0).toNat)) := by
  rw [List.getElem?_map, List.getElem?_eq_getElem h, List.getD_eq_getElem?_getD, List.getElem?_eq_getElem h]; rfl

theorem Row.take1 {w : World} {F : Nat → Prop} {A : Option Addr} {n c : Nat} {xs : List Value} (h : Row w F 1 (.slice A n c) n xs) (m : Nat) (hm : m ≤ n) : Row w F 1 (.slice A m c) m (xs.take m) := by
  obtain ⟨h1, h0, A', c', e, h3, h4, h5⟩ := h
  injection e with e1 _ e3
  subst e1 e3
  refine ⟨by simp; omega, by omega, _, _, rfl, by omega, fun e => by have := h4 e; omega, fun hn => ?_⟩
  obtain ⟨b, off, e, hf, hc⟩ := h5 (by omega)
  refine ⟨b, off, e, hf, fun j u hu => hc j u ?_⟩
  rw [List.getElem?_take] at hu
  split at hu
  · exact hu
  · cases hu
theorem u8s_take (l : List UInt8) (n : Nat) : u8s (l.take n) = (u8s l).take n := by simp


theorem Row.form {w : World} {F : Nat → Prop} {size n : Nat} {v : Value} {xs : List Value} (h : Row w F size v n xs) : ∃ A c, v = .slice A n c ∧ n ≤ c := by
  obtain ⟨_, _, A, c, rfl, hc, _⟩ := h
  exact ⟨A, c, rfl, hc⟩
theorem Row.cellAt {w : World} {F : Nat → Prop} {A : Option Addr} {n c : Nat} {xs : List Value} (h : Row w F 1 (.slice A n c) n xs) (hn : 0 < n) :
    ∃ b off, A = some ⟨b, off, none⟩ ∧ F b ∧ ∀ j u, xs[j]? = some u → w.cell? ⟨b, off + j, none⟩ = some u := by
  obtain ⟨_, _, A', c', e, _, _, h⟩ := h
  injection e with e1
  subst e1
  exact h hn

end Go.Proofs.Ytjeekhgkcphnpaa
