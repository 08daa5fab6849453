/- The writer's Add. -/
import Derived.Test.YtkpagfeglpfhkaaBitsW
namespace Go.Proofs.Ytkpagfeglpfhkaa
open Go.RowKit

set_option maxHeartbeats 1000000 in
theorem add_any (F : Nat → Prop) (g : Nat) (v y : Value) (high : Bool) (l : List Bool) (bs b : List UInt8) (free : Nat) (w : World) (h : WObj w g v high l bs free)
    (hr : Row w F 1 y b.length (u8s b)) (hF : ∀ k, F k → k ≠ g) (hb : l.length ≤ 1099511627776) (hb2 : b.length ≤ 1099511627776) :
    Calls Try.prog 37 #[.pointer (some ⟨g, 0, none⟩), y] w fun e w' => e = .returned (.tuple #[]) ∧
      Wrote w g v high (l ++ List.replicate free false ++ Pure.bitsOfBytes high b) w' := by
  have HM := Lib.hid (wmade_any g high v (.int .i64 free) w h.blk)
  have HA := Lib.hid (walign_any g v high l bs free w h)
  have hlen := h.packs.len
  have hrest := h.rest
  obtain ⟨i0, hi0, hz0, hz1, hz2⟩ := info_parts u8_info
  obtain ⟨A, c, rfl⟩ := own_form h.own
  have HR := Lib.hid hr
  clear h
  obtain ⟨_, _, Ay, cy, rfl, _⟩ := hr
  go_enter Try.func37, Try.ntmps37
  go_upto_region 2 with (first
    | (go_at_call 56; refine HM.out.mono ?_; rintro e w' ⟨rfl, rfl⟩)
    | (go_at_call 35; refine HA.out.mono ?_; rintro e w1 ⟨rfl, h1, k1⟩))
  have hr1 : Row w1 F 1 (.slice Ay b.length cy) b.length (u8s b) := HR.out.keeps k1 (fun k hk e => hF k hk e)
  have c0 : w1.cell? ⟨g, 0, none⟩ = some (.slice A bs.length c) := by rw [h1.blk.cell]; rfl
  have H1 := Lib.hid h1
  have K1 := Lib.hid k1
  have R1 := Lib.hid hr1
  clear h1 k1 hr1 HR HA HM
  go_wp2_with (at_builtin; refine stopHere ?_)
  unfold Hid
  refine wpList_append_row rfl (.tmp 13) (.tmp 14) _ rfl 0 5 i0 _ 1 1 Try.underlying26 hi0 hz0 hz1 hz2 rfl (by omega) (.slice A bs.length c) bs.length (u8s bs)
    rfl H1.out.own F _ b.length (u8s b) rfl R1.out (u8s_cells b) (by simp only [maxLen]; omega) (by omega) (by omega) ?_
  intro v2 w2 hown2 hg2 hat2
  obtain ⟨A2, c2, rfl⟩ := own_form hown2
  have hb2' : Blk w2 g 68 #[.slice A bs.length c, .int .i64 (0 : Nat), placeV high] :=
    H1.out.blk.grown hg2 (fun e => ownsRow_ne H1.out.own H1.out.blk (by decide) e.symm)
  have d0 : w2.cell? ⟨g, 0, none⟩ = some (.slice A bs.length c) := by rw [hb2'.cell]; rfl
  have e0 : w2.frozen? ⟨g, 0, none⟩ = false := hb2'.frozen 0
  have hkk : Keeps (fw g (.slice A bs.length c)) w w2 := (K1.out.mono (fun _ h => .inl h)).grown hg2 (fun k hk _ => .inr hk)
  have hfin : Wrote w g (.slice A bs.length c) high (l ++ List.replicate free false ++ Pure.bitsOfBytes high b) (w2.setCell ⟨g, 0, none⟩ (.slice A2 (bs.length + b.length) c2)) := by
    refine ⟨.slice A2 (bs.length + b.length) c2, bs ++ b, 0, ⟨⟨?_, ?_, H1.out.packs.add b⟩, by omega⟩, hkk.store g 0 (fun _ => fw_g g _) _, fun k hk => ?_⟩
    · have := hb2'.set 0 (.slice A2 (bs.length + b.length) c2)
      simpa using this
    · rw [show u8s (bs ++ b) = u8s bs ++ u8s b by simp, List.length_append]
      exact ownsRow_keeps hown2 ((Keeps.refl _ w2).store g 0 (fun _ => only_self g) _) (fun k hk e => by
        have e : k = g := e
        subst e
        exact ownsRow_ne hown2 hb2' (by decide) hk)
    · rcases hat2 with ha | ha
      · exact .inl (ha ▸ hk)
      · right
        rw [ha] at hk
        have := K1.out.size
        simp at hk
        omega
  have HF := Lib.hid hfin
  clear hfin hkk hb2' hown2 hg2 hat2 hi0 hz0 hz1 hz2 hF
  go_wp2
  go_end0
  exact ⟨rfl, HF.out⟩
theorem fw_lt {w : World} {g : Nat} {v : Value} {high : Bool} {l : List Bool} {bs : List UInt8} {free : Nat} (h : WObj w g v high l bs free) (b : Nat) (hb : fw g v b) : b < w.heap.size := by
  rcases hb with rfl | hb
  · exact h.blk.lt
  · exact ownsRow_lt h.own b hb
end Go.Proofs.Ytkpagfeglpfhkaa
