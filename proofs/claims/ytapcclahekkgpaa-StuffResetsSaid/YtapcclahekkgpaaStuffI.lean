/- Contract of the statements' awake. -/
import Derived.Test.YtapcclahekkgpaaStuffE
import Derived.Test.YtapcclahekkgpaaStuffH
namespace Go.Proofs.Ytapcclahekkgpaa
open Go.RowKit

/-- A frame that is told alone. -/
theorem told_one {w : World} {base : Nat} {o : Value} {ps : List (Value × List UInt8)} {f : List UInt8} (h : Told w base o ps) (hp : ps.map Prod.snd = [f]) (hf : 0 < f.length) :
    ∃ b A n c m, o = .slice (some ⟨b, 0, none⟩) 1 m ∧ A = some n ∧ ps = [(.slice A f.length c, f)] ∧ w.cell? ⟨b, 0, none⟩ = some (.slice A f.length c) ∧ w.ownsRow 0 5 1 (.slice A f.length c) f.length (u8s f) := by
  match ps, hp with
  | [(u, g)], hp =>
    simp only [List.map_cons, List.map_nil, List.cons.injEq, and_true] at hp
    subst hp
    have h1 := h.rows (u, g) (by simp)
    obtain ⟨A, c, e⟩ := own_form h1
    simp only at e h1
    subst e
    obtain ⟨B, m, e2⟩ := own_form h.own
    have h2 := h.own
    rw [e2] at h2
    obtain ⟨b, e3, _, hc⟩ := own_cell h2 (by simp)
    obtain ⟨n, e4, _, _⟩ := own_cell h1 hf
    subst e3
    refine ⟨b, A, _, c, m, e2, e4, rfl, ?_, h1⟩
    simpa using hc 0 _ rfl

set_option maxHeartbeats 1000000 in
theorem awake_any (w : World) : Calls Try.prog 11 #[] w fun e w' => e = .returned (.bool true) ∧ Below w.heap.size w w' := by
  have HN : Calls Try.prog 12 #[.int .u32 0, .int .i64 100] w _ := new_any 0 100 w (by omega) (by omega) (by omega)
  have HNN := Lib.hid HN
  clear HN
  go_enter Try.func11, Try.ntmps11
  go_wp2_with fail
  refine HNN.out.mono ?_
  rintro e w1 ⟨rfl, hd1, hb1⟩
  have D1 := Lib.hid hd1
  have B1 := Lib.hid hb1
  have hsz1 := hb1.size
  have hr1 := row_new w1 [126, 5, 65] #[.int .u8 126, .int .u8 5, .int .u8 65] 3 rfl rfl (by simp)
  have HS : Calls Try.prog 13 #[.slice (some ⟨w1.heap.size, 0, none⟩) 3 3, .int .u32 32] (w1.alloc (.cells #[.int .u8 126, .int .u8 5, .int .u8 65] 5)) _ := stuff_any _ _ [126, 5, 65] 32 _ hr1 (by simp) (by omega)
  have HSS := Lib.hid HS
  clear HS hr1 hd1 hb1 HNN
  go_wp2_with fail
  refine HSS.out.mono ?_
  rintro e w2 ⟨u, rfl, hu, hb2⟩
  obtain ⟨A, c, rfl⟩ := own_form hu
  have hb2' := B1.out.trans ((((Below.refl _ _).alloc (Nat.le_refl _) _).trans (hb2.mono (by simp))).mono hsz1)
  have hd2 := D1.out.keeps (((Keeps.refl nobody _).alloc (.cells #[.int .u8 126, .int .u8 5, .int .u8 65] 5)).trans (Keeps.new hb2)) (fun h => h) (fun _ _ h => h)
  have HF := Lib.hid (feed_any _ _ _ _ _ (Pure.stuff 32 [126, 5, 65]) w2 hd2 (Row.of_own hu) (by
    rintro b hb (rfl | h)
    · have := ownsRow_ge hu _ hb
      have := D1.out.lt
      simp at *
      omega
    · simp [Value.ownBlock] at h) (by simp) (by have := Pure.stuff_le 32 [126, 5, 65]; simp at this; omega))
  have B2 := Lib.hid hb2'
  have hsz2 := hb2'.size
  have hlen : (Pure.stuff 32 [126, 5, 65]).length ≤ 100 := by have := Pure.stuff_le 32 [126, 5, 65]; simp at this; omega
  obtain ⟨N, hN⟩ : ∃ N, N = (Pure.stuff 32 [126, 5, 65]).length := ⟨_, rfl⟩
  rw [← hN] at HF hlen
  rw [← hN]
  clear hu hb2 hb2' hd2 HSS hN
  go_wp2_with fail
  refine HF.out.mono ?_
  rintro e w3 ⟨o, cv, ps, rfl, hps, hat⟩
  rw [Pure.DF.feed_stuff [126, 5, 65] ⟨0, 100, [], false, 0⟩ rfl rfl (Pure.Covers.zero 32)] at hps
  obtain ⟨b, A3, n3, c3, m3, rfl, hA3, hps3, hcell, hown3⟩ := told_one hat.told (f := [126, 5, 65]) (by simpa using hps) (by simp)
  have hb3 := Below.keeps B2.out hat.keep hsz2 (by
    rintro i (rfl | h)
    · exact Nat.le_refl _
    · simp [Value.ownBlock] at h)
  have B3 := Lib.hid hb3
  have hr3 := row_new w3 [126, 5, 65] #[.int .u8 126, .int .u8 5, .int .u8 65] 3 rfl rfl (by simp)
  have HS : Calls Try.prog 15 #[.slice A3 3 c3, .slice (some ⟨w3.heap.size, 0, none⟩) 3 3] (w3.alloc (.cells #[.int .u8 126, .int .u8 5, .int .u8 65] 5)) _ :=
    same_any _ _ _ _ [126, 5, 65] [126, 5, 65] _ (Row.of_own (ownsRow_keeps hown3 ((Keeps.refl nobody _).alloc _) (fun _ _ h => h))) hr3
  have HSS := Lib.hid HS
  have hsz3 := hb3.size
  have hcell3 : w3.cell? ⟨b, 0, none⟩ = some (.slice A3 3 c3) := hcell
  clear hps hat hps3 hcell hown3 hb3 hr3 HS hA3 HF
  go_wp2_with fail
  refine HSS.out.mono ?_
  rintro e w4 ⟨rfl, hk4⟩
  have B4 := Lib.hid (Below.quiet (B3.out.alloc hsz3 _) hk4 (by simp; omega))
  clear hk4
  go_wp2
  go_ret
  exact ⟨rfl, B4.out⟩
end Go.Proofs.Ytapcclahekkgpaa
