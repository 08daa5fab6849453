/- Package packet: two options compared. -/
import Derived.Test.YtaalbjbocbagcaaDoorOptB
import Derived.Test.YtaalbjbocbagcaaDoorBytesC
namespace Go.Proofs.YtaalbjbocbagcaaDoor
open Go.RowKit
set_option maxRecDepth 100000 in
set_option maxHeartbeats 2000000 in
theorem one_any (F G : Nat → Prop) (v u : Value) (a b : Pure.Opt) (w : World) (hx : Row w F 1 v a.2.length (u8s a.2)) (hy : Row w G 1 u b.2.length (u8s b.2)) :
    Calls Tryd.prog 31 #[optV (v, a), optV (u, b)] w fun e w' => e = .returned (.bool (decide (a = b))) ∧ Keeps nobody w w' := by
  obtain ⟨A, cA, rfl, hc⟩ := hx.form
  obtain ⟨B, cB, rfl, hd⟩ := hy.form
  obtain ⟨s, la⟩ := a
  obtain ⟨t, lb⟩ := b
  dsimp only at *
  have HX := Lib.hid hx
  have HY := Lib.hid hy
  clear hx hy
  obtain ⟨g, hg⟩ : ∃ g, g = w.heap.size := ⟨_, rfl⟩
  go_enter Tryd.func31, Tryd.ntmps31
  go_upto_region 1 with fail
  obtain ⟨w1, hw1⟩ : ∃ w1, w1 = (w.alloc (.cells #[.int .i64 s, .slice A la.length cA] 36)).alloc (.cells #[.int .i64 t, .slice B lb.length cB] 36) := ⟨_, rfl⟩
  rw [← hw1, ← hg]
  have hb1 : Blk w1 g 36 #[.int .i64 s, .slice A la.length cA] := by rw [hw1, hg]; exact (Blk.new w _ _).alloc _
  have hb2 : Blk w1 (g + 1) 36 #[.int .i64 t, .slice B lb.length cB] := by
    rw [hw1, hg]
    have := Blk.new (w.alloc (.cells #[.int .i64 s, .slice A la.length cA] 36)) 36 #[.int .i64 t, .slice B lb.length cB]
    rw [World.size_alloc] at this
    exact this
  have hk : Keeps nobody w w1 := by rw [hw1]; exact ((Keeps.refl _ w).alloc _).alloc _
  have a0 : w1.cell? ⟨g, 0, none⟩ = some (.int .i64 s) := by rw [hb1.cell]; rfl
  have a1 : w1.cell? ⟨g, 1, none⟩ = some (.slice A la.length cA) := by rw [hb1.cell]; rfl
  have b0 : w1.cell? ⟨g + 1, 0, none⟩ = some (.int .i64 t) := by rw [hb2.cell]; rfl
  have b1 : w1.cell? ⟨g + 1, 1, none⟩ = some (.slice B lb.length cB) := by rw [hb2.cell]; rfl
  have HS := Lib.hid (bequal_any F G _ _ _ _ la lb w1 (HX.out.keeps hk (fun _ _ h => h)) (HY.out.keeps hk (fun _ _ h => h)))
  have HK := Lib.hid hk
  clear hw1 hb1 hb2 hk hg
  by_cases hst : s = t
  · have d0 : (s == t) = true := by rw [hst]; exact beq_self_eq_true t
    have hdec : decide ((s, la) = (t, lb)) = decide (la = lb) := by rw [hst]; simp
    have HD := Lib.hid hdec
    obtain ⟨r, hr⟩ : ∃ r, r = decide (la = lb) := ⟨_, rfl⟩
    rw [← hr] at HS HD
    clear hst hdec hr
    go_wp2_with fail
    refine HS.out.mono ?_
    rintro e w2 ⟨rfl, rfl⟩
    have HK2 := HK
    clear HS
    cases r
    · go_wp2
      go_ret
      exact ⟨by rw [HD.out]; rfl, HK2.out⟩
    · go_wp2
      go_ret
      exact ⟨by rw [HD.out]; rfl, HK2.out⟩
  · have d0 : (s == t) = false := by rw [beq_eq_false_iff_ne]; exact hst
    have HD := Lib.hid (show decide ((s, la) = (t, lb)) = false from decide_eq_false (fun e => hst (congrArg Prod.fst e)))
    clear hst HS
    go_wp2
    go_ret
    exact ⟨by rw [HD.out]; rfl, HK.out⟩
end Go.Proofs.YtaalbjbocbagcaaDoor
