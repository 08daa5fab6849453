/- The cells of a cipher, and the closure that exchanges two elements of a table. -/
import Derived.BigRegion
import Derived.Deep.WholeRow
import Derived.OwnWalk
import Derived.Test.YtkfcdeeohhghhaaAppend
import Derived.Test.YtkfcdeeohhghhaaNum
import Derived.Test.YtkfcdeeohhghhaaRc4Pure
namespace Go.Proofs.Ytkfcdeeohhghhaa
open Go.RowKit

/-- The cells of the program's cipher. -/
def cc (kd : Int) (s : List UInt8) (i j : Nat) (id n : Int) : Array Value := (.int .i64 kd :: (u8s s ++ [.int .u8 i, .int .u8 j, .int .i64 id, .int .i64 n])).toArray
/-- The cells of the document's. -/
def mc (s : List UInt8) (i j n : Int) (term : Bool) (id : Int) : Array Value := (u8s s ++ ([.int .i64 i, .int .i64 j, .int .i64 n, .bool term, .int .i64 id] : List Value)).toArray

section
variable {kd : Int} {s : List UInt8} {i j : Nat} {id n : Int}
theorem cc_size (hs : s.length = 256) : (cc kd s i j id n).size = 261 := by simp [cc, hs]
theorem cc_0 : (cc kd s i j id n)[0]? = some (.int .i64 kd) := rfl
theorem cc_s (hs : s.length = 256) (k : Nat) (hk : k < 256) : (cc kd s i j id n)[1 + k]? = some (.int .u8 ((s.getD k 0).toNat)) := by
  unfold cc
  rw [List.getElem?_toArray, Nat.add_comm, List.getElem?_cons_succ, List.getElem?_append_left (by simp; omega)]
  exact u8s_at s k (by omega)
theorem cc_tail (hs : s.length = 256) (k : Nat) : (cc kd s i j id n)[257 + k]? = ([.int .u8 i, .int .u8 j, .int .i64 id, .int .i64 n] : List Value)[k]? := by
  unfold cc
  rw [List.getElem?_toArray, show 257 + k = (256 + k) + 1 by omega, List.getElem?_cons_succ, List.getElem?_append_right (by simp; omega)]
  simp [hs]
theorem cc_set (hs : s.length = 256) (k : Nat) (hk : k < 256) (x : UInt8) : (cc kd s i j id n).setIfInBounds (1 + k) (.int .u8 x.toNat) = cc kd (s.set k x) i j id n := by
  unfold cc
  rw [List.setIfInBounds_toArray, Nat.add_comm, List.set_cons_succ, List.set_append_left _ _ (by simp; omega)]
  simp [List.map_set]
theorem cc_set_tail (hs : s.length = 256) (k : Nat) (u : Value) : (cc kd s i j id n).setIfInBounds (257 + k) u = (.int .i64 kd :: (u8s s ++ ([.int .u8 i, .int .u8 j, .int .i64 id, .int .i64 n] : List Value).set k u)).toArray := by
  unfold cc
  rw [List.setIfInBounds_toArray, show 257 + k = (256 + k) + 1 by omega, List.set_cons_succ, List.set_append_right _ _ (by simp; omega)]
  simp [hs]
theorem cc_set_i (hs : s.length = 256) (x : Nat) : (cc kd s i j id n).setIfInBounds 257 (.int .u8 x) = cc kd s x j id n := cc_set_tail hs 0 _
theorem cc_set_j (hs : s.length = 256) (x : Nat) : (cc kd s i j id n).setIfInBounds 258 (.int .u8 x) = cc kd s i x id n := cc_set_tail hs 1 _
theorem cc_set_n (hs : s.length = 256) (x : Int) : (cc kd s i j id n).setIfInBounds 260 (.int .i64 x) = cc kd s i j id x := cc_set_tail hs 3 _
theorem cc_one : (cc kd s i j id n).all (·.oneCell') = true := by
  simp only [cc, List.all_toArray, List.all_cons, List.all_append, Bool.and_eq_true, List.all_map]
  exact ⟨rfl, by simp [Value.oneCell'], rfl, rfl, rfl, rfl, rfl⟩
end

section
variable {s : List UInt8} {i j n id : Int} {t : Bool}
theorem mc_size (hs : s.length = 256) : (mc s i j n t id).size = 261 := by simp [mc, hs]
theorem mc_s (hs : s.length = 256) (k : Nat) (hk : k < 256) : (mc s i j n t id)[k]? = some (.int .u8 ((s.getD k 0).toNat)) := by
  unfold mc
  rw [List.getElem?_toArray, List.getElem?_append_left (by simp; omega)]
  exact u8s_at s k (by omega)
theorem mc_tail (hs : s.length = 256) (k : Nat) : (mc s i j n t id)[256 + k]? = ([.int .i64 i, .int .i64 j, .int .i64 n, .bool t, .int .i64 id] : List Value)[k]? := by
  unfold mc
  rw [List.getElem?_toArray, List.getElem?_append_right (by simp; omega)]
  simp [hs]
theorem mc_set (hs : s.length = 256) (k : Nat) (hk : k < 256) (x : UInt8) : (mc s i j n t id).setIfInBounds k (.int .u8 x.toNat) = mc (s.set k x) i j n t id := by
  unfold mc
  rw [List.setIfInBounds_toArray, List.set_append_left _ _ (by simp; omega)]
  simp [List.map_set]
theorem mc_set_tail (hs : s.length = 256) (k : Nat) (u : Value) : (mc s i j n t id).setIfInBounds (256 + k) u = (u8s s ++ ([.int .i64 i, .int .i64 j, .int .i64 n, .bool t, .int .i64 id] : List Value).set k u).toArray := by
  unfold mc
  rw [List.setIfInBounds_toArray, List.set_append_right _ _ (by simp; omega)]
  simp [hs]
theorem mc_set_i (hs : s.length = 256) (x : Int) : (mc s i j n t id).setIfInBounds 256 (.int .i64 x) = mc s x j n t id := mc_set_tail hs 0 _
theorem mc_set_j (hs : s.length = 256) (x : Int) : (mc s i j n t id).setIfInBounds 257 (.int .i64 x) = mc s i x n t id := mc_set_tail hs 1 _
theorem mc_set_n (hs : s.length = 256) (x : Int) : (mc s i j n t id).setIfInBounds 258 (.int .i64 x) = mc s i j x t id := mc_set_tail hs 2 _
end

set_option maxRecDepth 100000 in
set_option maxHeartbeats 2000000 in
theorem exch_any (g off h i j p q : Nat) (w : World) (hi : i < 256) (hj : j < 256) (hgh : g ≠ h) (hc : w.cell? ⟨h, 0, none⟩ = some (.pointer (some ⟨g, off, none⟩)))
    (hp : w.cell? ⟨g, off + i, none⟩ = some (.int .u8 p)) (hq : w.cell? ⟨g, off + j, none⟩ = some (.int .u8 q)) (fi : w.frozen? ⟨g, off + i, none⟩ = false) (fj : w.frozen? ⟨g, off + j, none⟩ = false) :
    Calls Try.prog 25 #[.int .u8 i, .int .u8 j, .pointer (some ⟨h, 0, none⟩)] w fun e w' => e = .returned (.tuple #[]) ∧
      ∃ n, w' = ((w.setCell ⟨g, off + i, none⟩ (.int .u8 q)).setCell ⟨g, off + j, none⟩ (.int .u8 p)).drewN n := by
  obtain ⟨v', hv⟩ := cell?_setCell_some (w := w) (p := ⟨g, off + i, none⟩) (x := .int .u8 q) (q := ⟨g, off + j, none⟩) (v := .int .u8 q) hq
  have hi0 : (0 : Int) ≤ (i : Int) := by omega
  have hj0 : (0 : Int) ≤ (j : Int) := by omega
  have hi1 : (i : Int) < 256 := by omega
  have hj1 : (j : Int) < 256 := by omega
  go_enter Try.func25, Try.ntmps25
  go_wp2
  go_region
  go_end0
  exact ⟨rfl, 1, rfl⟩

theorem exchanger_any (a : Addr) (w : World) :
    Calls Try.prog 24 #[.pointer (some a)] w fun e w' => e = .returned (.func (.func 25) #[] #[.pointer (some ⟨w.heap.size, 0, none⟩)]) ∧ w.alloc (.cells #[.pointer (some a)] 51) = w' := by
  have hmf : ∀ (fn : Fn) (first cap : Array Value) (w : World), (Instr.makeFunc fn first cap).run Try.prog w = .ok (.func fn first cap) w := fun _ _ _ _ => rfl
  go_enter Try.func24, Try.ntmps24
  go_wp2
  go_ret
  exact ⟨rfl, rfl⟩
end Go.Proofs.Ytkfcdeeohhghhaa
