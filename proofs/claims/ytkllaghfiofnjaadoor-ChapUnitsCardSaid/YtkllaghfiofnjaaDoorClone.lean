/- Contract of package slices' Clone over bytes. -/
import Derived.Test.YtkllaghfiofnjaaDoorBase
namespace Go.Proofs.YtkllaghfiofnjaaDoor
open Go.RowKit

set_option maxHeartbeats 400000 in
theorem clone_any (F : Nat → Prop) (x : Value) (n : Nat) (l : List UInt8) (w : World) (hr : Row w F 1 x n (u8s l)) (hn : n ≤ 140737488355328) :
    Calls Tryd.prog 78 #[x] w fun e w' => ∃ v, e = .returned v ∧ w'.ownsRow w.heap.size 5 1 v n (u8s l) ∧ Below w.heap.size w w' := by
  obtain ⟨i0, hi0, hz0, hz1, hz2⟩ := info_parts u8_info
  have hr' := hr
  obtain ⟨hl, hm, A, c, rfl, hc, hA, hcell⟩ := hr
  rcases A with _ | ad
  · obtain rfl := hA rfl
    have hl0 : u8s l = [] := List.eq_nil_of_length_eq_zero (by simpa using hl)
    clear hcell hA hl
    have hq := fun (W : World) => Lib.run_eql_slice_nil (P := Tryd.prog) W 25 5 none 0 c 0 0 Tryd.underlying25
    go_enter Tryd.func78, Tryd.ntmps78
    go_wp2
    go_ret
    refine ⟨_, rfl, ⟨by rw [hl0]; rfl, .inl ⟨rfl, rfl⟩⟩, Below.refl _ _⟩
  · have HL := Lib.hid hl
    have hbw : Row (w.alloc (.cells #[] 5)) F 1 (.slice (some ad) n c) n (u8s l) :=
      hr'.cellsOf fun b off u _ hu => (World.cell?_alloc_lt w _ ⟨b, off, none⟩ (cell_lt hu)).trans hu
    clear hl hcell hA hr'
    have hq := fun (W : World) => Lib.run_eql_slice_nil (P := Tryd.prog) W 25 5 (some ad) n c 0 0 Tryd.underlying25
    go_enter Tryd.func78, Tryd.ntmps78
    go_wp2_with (at_builtin; refine stopHere ?_)
    unfold Hid
    refine wpList_append_row rfl (.tmp 5) (.tmp 6) _ rfl w.heap.size 5 i0 _ 1 1 Tryd.underlying25 hi0 hz0 hz1 hz2 rfl (by omega) (.slice (some ⟨w.heap.size, 0, none⟩) 0 0) 0 []
      rfl (ownsRow_made _ _ _ _ (Nat.le_refl _)) F _ n (u8s l) rfl hbw (u8s_cells l) (by omega) (by omega) (by simp) ?_
    intro v1 w1 hown1 hg1 hat1
    go_wp2
    go_ret
    refine ⟨v1, rfl, by simpa using hown1, ((Below.refl _ _).alloc (Nat.le_refl _) _).grown hg1 (by simp) ?_⟩
    intro k hk
    simp [Value.ownBlock] at hk
    omega
end Go.Proofs.YtkllaghfiofnjaaDoor
