/- The walk of the law StuffKnown. -/
import Derived.Test.YtapcclahekkgpaaStuffI
import Derived.Test.YtapcclahekkgpaaFrame
namespace Go.Proofs.Ytapcclahekkgpaa
open Go.RowKit

theorem told_none {w : World} {base : Nat} {o : Value} {ps : List (Value × List UInt8)} (h : Told w base o ps) (hp : ps.map Prod.snd = []) : ∃ A c, o = .slice A 0 c := by
  match ps, hp with
  | [], _ => exact own_form h.own

theorem Below.fed {B : Nat} {w wr w' : World} {g : Nat} {v cv o : Value} {ps : List (Value × List UInt8)} {d : Pure.DF} (h : Below B w wr) (hat : FeedAt wr g v w' cv o ps d) (hB : B ≤ wr.heap.size) (hg : B ≤ g) (hv : ∀ b, v.ownBlock = some b → B ≤ b) : Below B w w' :=
  Below.keeps h hat.keep hB (by
    rintro i (rfl | h)
    · exact hg
    · exact hv i h)

theorem known_feed : ((⟨0, 9, [], false, 0⟩ : Pure.DF).feed [65, 125, 126]).2 = [] ∧ ((⟨0, 9, [], false, 0⟩ : Pure.DF).feed [65, 125, 126]).1.dropped = 1 := ⟨by decide, by decide⟩
theorem known_stuff : Pure.stuff 32 [126, 5, 65] = [126, 125, 94, 125, 37, 65, 126] := by decide

set_option maxHeartbeats 1000000 in
theorem stuffKnown_walk (w : World) : Calls Try.prog 3 #[] w fun e w' => e = .returned (.bool true) ∧ Below w.heap.size w w' := by
  have HA := Lib.hid (awake_any w)
  go_enter Try.func3, Try.ntmps3
  go_wp2_with fail
  refine HA.out.mono ?_
  rintro e w0 ⟨rfl, hb0⟩
  have B0 := Lib.hid hb0
  have hsz0 := hb0.size
  have HN : Calls Try.prog 12 #[.int .u32 0, .int .i64 9] w0 _ := new_any 0 9 w0 (by omega) (by omega) (by omega)
  have HNN := Lib.hid HN
  clear HN hb0 HA
  go_wp2_with fail
  refine HNN.out.mono ?_
  rintro e w1 ⟨rfl, hd1, hb1⟩
  have D1 := Lib.hid hd1
  have B1 := Lib.hid (B0.out.trans (hb1.mono hsz0))
  have hsz1 : w0.heap.size ≤ w1.heap.size := hb1.size
  have HN := Lib.hid (new_bad 0 0 w1 (by omega))
  have hr1 := row_new w1 [126, 5, 65] #[.int .u8 126, .int .u8 5, .int .u8 65] 3 rfl rfl (by simp)
  have HS : Calls Try.prog 13 #[.slice (some ⟨w1.heap.size, 0, none⟩) 3 3, .int .u32 32] (w1.alloc (.cells #[.int .u8 126, .int .u8 5, .int .u8 65] 5)) _ := stuff_any _ _ [126, 5, 65] 32 _ hr1 (by simp) (by omega)
  have HSS := Lib.hid HS
  clear HS hr1 hd1 hb1 HNN
  go_wp2_with (go_at_call 12; refine HN.out.mono ?_; rintro e w' ⟨rfl, rfl⟩)
  refine HSS.out.mono ?_
  rintro e w2 ⟨u, rfl, hu, hb2⟩
  rw [known_stuff] at hu
  obtain ⟨A, c, rfl⟩ := own_form hu
  have hb2' := B1.out.trans ((((Below.refl _ _).alloc (Nat.le_refl _) _).trans (hb2.mono (by simp))).mono (Nat.le_trans hsz0 hsz1))
  have hd2 := D1.out.keeps (((Keeps.refl nobody _).alloc (.cells #[.int .u8 126, .int .u8 5, .int .u8 65] 5)).trans (Keeps.new hb2)) (fun h => h) (fun _ _ h => h)
  have B2 := Lib.hid hb2'
  have U2 := Lib.hid hu
  have D2 := Lib.hid hd2
  have hsz2 : w1.heap.size ≤ w2.heap.size := by have := hb2.size; simp at this; omega
  have hgt : w1.heap.size < w2.heap.size := by have := hb2.size; simp at this; omega
  have hr2 := row_new w2 [65, 125, 126] #[.int .u8 65, .int .u8 125, .int .u8 126] 3 rfl rfl (by simp)
  have HF : Calls Try.prog 14 #[.pointer (some ⟨w0.heap.size, 0, none⟩), .slice (some ⟨w2.heap.size, 0, none⟩) 3 3] (w2.alloc (.cells #[.int .u8 65, .int .u8 125, .int .u8 126] 5)) _ :=
    feed_any _ _ _ _ _ [65, 125, 126] _ (hd2.keeps ((Keeps.refl nobody _).alloc _) (fun h => h) (fun _ _ h => h)) hr2 (by
      rintro b hb (rfl | h)
      · have := D2.out.lt
        omega
      · simp [Value.ownBlock] at h) (by simp) (by simp)
  have HFF := Lib.hid HF
  clear HF hr2 hu hb2 hb2' hd2 HSS
  go_wp2_with fail
  refine HFF.out.mono ?_
  rintro e w3 ⟨o, cv, ps, rfl, hps, hat⟩
  rw [known_feed.1] at hps
  obtain ⟨A3, c3, rfl⟩ := told_none hat.told hps
  have hu3 := ownsRow_keeps U2.out (((Keeps.refl (dfw w0.heap.size (.slice none 0 0)) _).alloc _).trans hat.keep) (by
    rintro b hb (h | h)
    · have := ownsRow_ge U2.out b hb
      have := D1.out.lt
      simp at *
      omega
    · simp [Value.ownBlock] at h)
  have B3 := Lib.hid (Below.fed (B2.out.alloc B2.out.size _) hat (by have := B2.out.size; simp; omega) hsz0 (by simp [Value.ownBlock]))
  have hsz3 := B3.out.size
  have HD := Lib.hid (hat.obj)
  have hr3 := row_new w3 [126, 125, 94, 125, 37, 65, 126] #[.int .u8 126, .int .u8 125, .int .u8 94, .int .u8 125, .int .u8 37, .int .u8 65, .int .u8 126] 7 rfl rfl (by simp)
  have HS : Calls Try.prog 15 #[.slice A 7 c, .slice (some ⟨w3.heap.size, 0, none⟩) 7 7] (w3.alloc (.cells #[.int .u8 126, .int .u8 125, .int .u8 94, .int .u8 125, .int .u8 37, .int .u8 65, .int .u8 126] 5)) _ :=
    same_any _ _ _ _ [126, 125, 94, 125, 37, 65, 126] [126, 125, 94, 125, 37, 65, 126] _ (Row.of_own (ownsRow_keeps hu3 ((Keeps.refl nobody _).alloc _) (fun _ _ h => h))) hr3
  have HSS := Lib.hid HS
  clear hps hat hu3 hr3 HS HFF
  go_wp2_with fail
  refine HSS.out.mono ?_
  rintro e w4 ⟨rfl, hk4⟩
  have hd4 := HD.out.keeps (((Keeps.refl nobody _).alloc (.cells #[.int .u8 126, .int .u8 125, .int .u8 94, .int .u8 125, .int .u8 37, .int .u8 65, .int .u8 126] 5)).trans hk4) (fun h => h) (fun _ _ h => h)
  have hdd := dropped_any _ _ _ w4 hd4
  rw [known_feed.2] at hdd
  have HDD := Lib.hid hdd
  have B4 := Lib.hid (Below.quiet (B3.out.alloc hsz3 _) hk4 (by simp; omega))
  clear hk4 hd4 HSS hdd
  go_wp2_with (go_at_call 16; refine HDD.out.mono ?_; rintro e w' ⟨rfl, rfl⟩)
  go_ret
  exact ⟨rfl, B4.out⟩
end Go.Proofs.Ytapcclahekkgpaa
