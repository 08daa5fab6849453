/- What a walk is told of a slice of integers that came in. -/
import Derived.Test.YtekocdiccfpkdaaKit
namespace Go.Proofs.Ytekocdiccfpkdaa
open Go.RowKit
/-- It is nil, or it leads to a row of 'cap' cells, the numbers zs: the first 'len' are its elements. -/
def IsRow (k : IntKind) (w : World) (a : Option Addr) (len cap : Nat) (zs : List Int) : Prop :=
  (a = none ∧ len = 0 ∧ cap = 0 ∧ zs = []) ∨
  ∃ x, a = some x ∧ len ≤ cap ∧ cap ≤ maxLen ∧ zs.length = cap ∧ (∀ i, i < zs.length → w.cell? (x.add i) = some (.int k (zs.getD i 0))) ∧ ∀ n ∈ zs, (Lit.int k n).wf = true

theorem addr_of_cell {w : World} {x : Addr} {u : Value} (h : w.cell? (x.add 0) = some u) : ∃ b off, x = ⟨b, off, none⟩ := by
  obtain ⟨b, off, spot⟩ := x
  cases spot with
  | none => exact ⟨b, off, rfl⟩
  | some s =>
    exfalso
    have hs : (Addr.add ⟨b, off, some s⟩ 0).spot = some s := rfl
    unfold World.cell? at h
    rw [hs] at h
    split at h
    · simp at h
    · cases h

/-- As a row of cells. -/
theorem IsRow.row {k : IntKind} {w : World} {a : Option Addr} {len cap : Nat} {zs : List Int} (h : IsRow k w a len cap zs) :
    Row w (fun b => b < w.heap.size) 1 (.slice a len cap) len ((zs.take len).map (Value.int k)) ∧ ∀ n ∈ zs.take len, (Lit.int k n).wf = true := by
  rcases h with ⟨rfl, rfl, rfl, rfl⟩ | ⟨x, rfl, hl, hm, hz, hc, hw⟩
  · exact ⟨⟨by simp, by simp [maxLen], none, 0, rfl, Nat.le_refl _, fun _ => rfl, fun h => absurd h (by omega)⟩, by simp⟩
  · refine ⟨⟨by simp; omega, by omega, _, cap, rfl, hl, by simp, fun hn => ?_⟩, fun n hn => hw n (List.mem_of_mem_take hn)⟩
    obtain ⟨b, off, rfl⟩ := addr_of_cell (hc 0 (by omega))
    have h0 := hc 0 (by omega)
    rw [addr_add] at h0
    refine ⟨b, off, rfl, cell_lt h0, fun j u hu => ?_⟩
    have hj : j < len := by
      have := (List.getElem?_eq_some_iff.1 hu).1
      simp at this
      omega
    have hcj := hc j (by omega)
    rw [addr_add] at hcj
    rw [hcj]
    rw [List.getElem?_map, List.getElem?_take, if_pos hj, List.getElem?_eq_getElem (by omega)] at hu
    rw [List.getD_eq_getElem?_getD, List.getElem?_eq_getElem (by omega)]
    exact hu

theorem u8_of_wf {n : Int} (h : (Lit.int .u8 n).wf = true) : 0 ≤ n ∧ n ≤ 255 := by
  simpa [Lit.wf, IntKind.min, IntKind.max, IntKind.signed, IntKind.bits] using h
/-- The bytes of a slice of bytes. -/
theorem IsRow.bytes {w : World} {a : Option Addr} {len cap : Nat} {zs : List Int} (h : IsRow .u8 w a len cap zs) :
    ∃ bs : List UInt8, bs.length = len ∧ Row w (fun b => b < w.heap.size) 1 (.slice a len cap) len (bs.map fun b => Value.int .u8 b.toNat) := by
  obtain ⟨hr, hw⟩ := h.row
  have hl := hr.1
  refine ⟨(zs.take len).map fun z => UInt8.ofNat z.toNat, by simpa using hl, ?_⟩
  have e : (((zs.take len).map fun z => UInt8.ofNat z.toNat).map fun b : UInt8 => Value.int .u8 b.toNat) = (zs.take len).map (Value.int .u8) := by
    rw [List.map_map]
    apply List.map_congr_left
    intro z hz
    have := u8_of_wf (hw z hz)
    have h2 : z.toNat < 2 ^ 8 := by omega
    simp only [Function.comp, UInt8.toNat_ofNat', Nat.mod_eq_of_lt h2]
    congr 1
    omega
  rw [e]
  exact hr
end Go.Proofs.Ytekocdiccfpkdaa
