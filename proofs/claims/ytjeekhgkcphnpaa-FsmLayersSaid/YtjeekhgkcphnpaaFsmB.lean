/- The document's table of the automaton: cell. -/
import Derived.Test.YtjeekhgkcphnpaaFsmA
namespace Go.Proofs.Ytjeekhgkcphnpaa
open Go.RowKit
def tabRow (k : Nat) : List Value := (Pure.strs.getD k []).map fun l => Value.string ⟨l.toArray⟩
def laid : Nat → World → World
  | 0, w => w
  | k + 1, w => (laid k w).alloc (.cells (tabRow k).toArray 9)
def tabTop (n : Nat) : List Value := (List.range 16).map fun k => Value.slice (some ⟨n + k, 0, none⟩) 10 10
def tabW (w : World) : World := (laid 16 w).alloc (.cells (tabTop w.heap.size).toArray 58)
theorem laid_size (w : World) : ∀ n, (laid n w).heap.size = w.heap.size + n
  | 0 => rfl
  | n + 1 => by show ((laid n w).alloc _).heap.size = _; rw [World.size_alloc, laid_size w n]; omega
theorem laid_keeps (w : World) : ∀ n, Keeps nobody w (laid n w)
  | 0 => Keeps.refl _ _
  | n + 1 => (laid_keeps w n).alloc _
theorem laid_blk (w : World) (k : Nat) : ∀ n, k < n → Blk (laid n w) (w.heap.size + k) 9 (tabRow k).toArray
  | 0, h => absurd h (by omega)
  | n + 1, h => by
    by_cases hk : k = n
    · subst hk
      have := Blk.new (laid k w) 9 (tabRow k).toArray
      rw [laid_size] at this
      exact this
    · exact (laid_blk w k n (by omega)).alloc _
theorem tab_keeps (w : World) : Keeps nobody w (tabW w) := (laid_keeps w 16).alloc _
theorem tab_top (w : World) (e : Nat) (h : e < 16) : (tabW w).cell? ⟨w.heap.size + 16, e, none⟩ = some (.slice (some ⟨w.heap.size + e, 0, none⟩) 10 10) := by
  have := Blk.new (laid 16 w) 58 (tabTop w.heap.size).toArray
  rw [laid_size] at this
  show ((laid 16 w).alloc _).cell? _ = _
  rw [this.cell]
  simp [tabTop, h]
theorem tab_row (w : World) (e s : Nat) (h : e < 16) (hs : s < 10) : (tabW w).cell? ⟨w.heap.size + e, s, none⟩ = some (.string ⟨(Pure.strAt s e).toArray⟩) := by
  have hb := (laid_blk w e 16 h).alloc (.cells (tabTop w.heap.size).toArray 58)
  show ((laid 16 w).alloc _).cell? _ = _
  rw [hb.cell]
  have hl := Pure.strs_rows e h
  simp [tabRow, Pure.strAt, List.getD_eq_getElem?_getD]
  rw [List.getD_eq_getElem?_getD] at hl
  rw [List.getElem?_eq_getElem (by omega)]
  simp
set_option maxRecDepth 100000 in
set_option maxHeartbeats 4000000 in
theorem cell_any (s e : Nat) (w : World) (hs : s < 10) (he : e < 16) :
    Calls Try.prog 35 #[.int .i64 s, .int .i64 e] w fun r w' => r = .returned (.string ⟨(Pure.strAt s e).toArray⟩) ∧ Keeps nobody w w' := by
  have s0 : (0 : Int) ≤ (s : Int) := by omega
  have s1 : (s : Int) < 10 := by omega
  have e0 : (0 : Int) ≤ (e : Int) := by omega
  have e1 : (e : Int) < 16 := by omega
  have HT := Lib.hid (tab_top w e he)
  have HR := Lib.hid (tab_row w e s he hs)
  have HK := Lib.hid (tab_keeps w)
  clear hs he
  go_enter Try.func35, Try.ntmps35
  go_upto_region 1 with fail
  go_cut [5] (fun v wx => v = .slice (some ⟨w.heap.size + 16, 0, none⟩) 16 16 ∧ wx = tabW w)
  case first =>
    go_wp2
    go_meet
    exact ⟨rfl, rfl⟩
  case rest =>
    obtain ⟨rfl, rfl⟩ := hcut
    have c0 := HT.out
    have c1 := HR.out
    generalize tabW w = W at *
    generalize w.heap.size = n at *
    go_wp2
    go_ret
    exact ⟨rfl, HK.out⟩
end Go.Proofs.Ytjeekhgkcphnpaa
