/- Contracts of package bytes: Clone, Equal. -/
import Derived.Test.YtaalbjbocbagcaaDoorBase
import Derived.Laws.BytesString
import Derived.Lib.BufferRead
namespace Go.Proofs.YtaalbjbocbagcaaDoor
open Go.RowKit

set_option maxHeartbeats 400000 in
theorem bclone_any (F : Nat → Prop) (x : Value) (n : Nat) (l : List UInt8) (w : World) (hr : Row w F 1 x n (u8s l)) (hn : n ≤ 140737488355328) :
    Calls Tryd.prog 38 #[x] w fun e w' => ∃ v, e = .returned v ∧ w'.ownsRow w.heap.size 5 1 v n (u8s l) ∧ Below w.heap.size w w' := by
  obtain ⟨i0, hi0, hz0, hz1, hz2⟩ := info_parts u8_info
  have hr' := hr
  obtain ⟨hl, hm, A, c, rfl, hc, hA, hcell⟩ := hr
  rcases A with _ | ad
  · obtain rfl := hA rfl
    have hl0 : u8s l = [] := List.eq_nil_of_length_eq_zero (by simpa using hl)
    clear hcell hA hl
    have hq := fun (W : World) => Lib.run_eql_slice_nil (P := Tryd.prog) W 23 5 none 0 c 0 0 Tryd.underlying23
    go_enter Tryd.func38, Tryd.ntmps38
    go_wp2
    go_ret
    refine ⟨_, rfl, ⟨by rw [hl0]; rfl, .inl ⟨rfl, rfl⟩⟩, Below.refl _ _⟩
  · have HL := Lib.hid hl
    have hbw : Row (w.alloc (.cells #[] 5)) F 1 (.slice (some ad) n c) n (u8s l) :=
      hr'.cellsOf fun b off u _ hu => (World.cell?_alloc_lt w _ ⟨b, off, none⟩ (cell_lt hu)).trans hu
    clear hl hcell hA hr'
    have hq := fun (W : World) => Lib.run_eql_slice_nil (P := Tryd.prog) W 23 5 (some ad) n c 0 0 Tryd.underlying23
    go_enter Tryd.func38, Tryd.ntmps38
    go_wp2_with (at_builtin; refine stopHere ?_)
    unfold Hid
    refine wpList_append_row rfl (.tmp 5) (.tmp 6) _ rfl w.heap.size 5 i0 _ 1 1 Tryd.underlying23 hi0 hz0 hz1 hz2 rfl (by omega) (.slice (some ⟨w.heap.size, 0, none⟩) 0 0) 0 []
      rfl (ownsRow_made _ _ _ _ (Nat.le_refl _)) F _ n (u8s l) rfl hbw (u8s_cells l) (by omega) (by omega) (by simp) ?_
    intro v1 w1 hown1 hg1 hat1
    go_wp2
    go_ret
    refine ⟨v1, rfl, by simpa using hown1, ((Below.refl _ _).alloc (Nat.le_refl _) _).grown hg1 (by simp) ?_⟩
    intro k hk
    simp [Value.ownBlock] at hk
    omega
theorem push_all : ∀ (l : List UInt8) (s : ByteArray), (l.map fun b => (b.toNat : Int)).foldl (fun r n => r.push (UInt8.ofNat n.toNat)) s = ⟨s.data ++ l.toArray⟩
  | [], s => by simp
  | x :: l, s => by
    rw [List.map_cons, List.foldl_cons, push_all l]
    simp [ByteArray.push]
/-- Bytes as a string. -/
theorem row_string {F : Nat → Prop} {A : Option Addr} {n c : Nat} {l : List UInt8} {w : World} (h : Row w F 1 (.slice A n c) n (u8s l)) :
    (convert 23 9 (.slice A n c)).run Tryd.prog w = .ok (.string ⟨l.toArray⟩) w := by
  have hl := h.1
  have hln : n = l.length := by simpa using hl.symm
  rcases A with _ | a
  · have h0 : n = 0 := by
      obtain ⟨_, _, A', c', e, _, _, hh⟩ := h
      rcases Nat.eq_zero_or_pos n with h0 | h0
      · exact h0
      · obtain ⟨b, off, rfl, _⟩ := hh h0
        injection e with e1
        cases e1
    subst h0
    have : l = [] := List.eq_nil_of_length_eq_zero hln.symm
    subst this
    exact Lib.run_convert_nil_bytes w 23 9 5 c Tryd.underlying23 Tryd.underlying5 Tryd.underlying9
  · rw [run_convert_bytes_string w 23 9 5 _ n c Tryd.underlying23 Tryd.underlying5 Tryd.underlying9]
    have hlc : (loadCells a n).run Tryd.prog w = .ok (u8s l).toArray w := by
      have := run_loadCells_list (P := Tryd.prog) (w := w) a (u8s l) (fun j v hj => by
        have hj' : j < l.length := by simpa using (List.getElem?_eq_some_iff.1 hj).1
        obtain ⟨b, off, e, _, hc⟩ := h.cellAt (by omega)
        injection e with e
        subst e
        rw [addr_add]
        exact hc j v hj)
      rw [hln]
      simpa using this
    rw [run_bytesToString w a n c (l.map fun b => (b.toNat : Int)) (by rw [hlc]; simp [u8s])]
    rw [push_all]
    simp
set_option maxHeartbeats 400000 in
theorem bequal_any (F G : Nat → Prop) (x y : Value) (n m : Nat) (a b : List UInt8) (w : World) (hx : Row w F 1 x n (u8s a)) (hy : Row w G 1 y m (u8s b)) :
    Calls Tryd.prog 32 #[x, y] w fun e w' => e = .returned (.bool (decide (a = b))) ∧ w = w' := by
  obtain ⟨A, cA, rfl, _⟩ := hx.form
  obtain ⟨B, cB, rfl, _⟩ := hy.form
  have h1 := row_string hx
  have h2 := row_string hy
  have HB := Lib.hid (show (a == b) = decide (a = b) by rw [Bool.eq_iff_iff]; simp)
  clear hx hy
  go_enter Tryd.func32, Tryd.ntmps32
  go_wp2
  go_ret
  exact ⟨by rw [← HB.out]; rfl, rfl⟩
end Go.Proofs.YtaalbjbocbagcaaDoor
