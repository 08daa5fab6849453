/- The walk of the law StuffLong. -/
import Derived.Test.YtapcclahekkgpaaStuffJ
import Derived.Test.YtapcclahekkgpaaCopy
namespace Go.Proofs.Ytapcclahekkgpaa
open Go.RowKit

theorem told_len {w : World} {base : Nat} {o : Value} {ps : List (Value × List UInt8)} (h : Told w base o ps) : ∃ A c, o = .slice A ps.length c := own_form h.own
theorem fst_len {α β : Type} {ps : List (α × β)} {l : List β} (h : ps.map Prod.snd = l) : ps.length = l.length := by rw [← h, List.length_map]

set_option maxRecDepth 100000 in
set_option maxHeartbeats 4000000 in
theorem stuffLong_walk (a0 : Option Addr) (len0 cap0 : Nat) (z0 : List Int) (a1 : Option Addr) (len1 cap1 : Nat) (z1 : List Int) (a2 : Int) (w : World) (w0 : IsRow .u8 w a0 len0 cap0 z0) (w1 : IsRow .u8 w a1 len1 cap1 z1) (w2 : (Lit.int .u32 a2).wf = true) :
    Calls Try.prog 8 #[.slice a0 len0 cap0, .slice a1 len1 cap1, .int .u32 a2] w fun e w' => e = .returned (.bool true) ∧ Below w.heap.size w w' := by
  obtain ⟨bs, hbl, hr⟩ := w0.bytes
  obtain ⟨cs, hcl, hr'⟩ := w1.bytes
  obtain ⟨m, rfl⟩ : ∃ m : Nat, a2 = m := ⟨a2.toNat, by have := u32_of_wf w2; omega⟩
  have hm : m < 4294967296 := by have := u32_of_wf w2; omega
  rw [← hbl] at hr ⊢
  rw [← hcl] at hr' ⊢
  have hmax := hr.2.1
  have hmax' := hr'.2.1
  unfold maxLen at hmax hmax'
  have HR := Lib.hid hr
  have HC := Lib.hid hr'
  have HA := Lib.hid (awake_any w)
  clear hr hr' w0 w1 w2 hbl hcl
  go_enter Try.func8, Try.ntmps8
  go_wp2_with fail
  refine HA.out.mono ?_
  rintro e wa ⟨rfl, hba⟩
  have BA := Lib.hid hba
  clear hba HA
  by_cases hok : 1 ≤ bs.length ∧ bs.length ≤ 2000 ∧ 1 ≤ cs.length ∧ cs.length ≤ bs.length
  · obtain ⟨o1, o2, o3, o4⟩ := hok
    have c1 : ¬ (bs.length : Int) < 1 := by omega
    have c2 : ¬ (bs.length : Int) > 2000 := by omega
    have c3 : ¬ (cs.length : Int) < 1 := by omega
    have c4 : ¬ (cs.length : Int) > (bs.length : Int) := by omega
    have HN : Calls Try.prog 12 #[.int .u32 0, .int .i64 bs.length] wa _ := new_any 0 bs.length wa (by omega) (by omega) (by omega)
    have HNN := Lib.hid HN
    clear HN
    go_wp2_with fail
    refine HNN.out.mono ?_
    rintro e wb ⟨rfl, hd1, hb1⟩
    have S1 := Lib.hid (Sit.new BA.out hd1 hb1)
    obtain ⟨g, hg⟩ : ∃ g, g = wa.heap.size := ⟨_, rfl⟩
    rw [← hg] at S1 ⊢
    have HS := Lib.hid (stuff_any _ _ bs m wb (S1.out.row HR.out) (by omega) hm)
    clear hd1 hb1 HNN c1 c2 c3 c4 hg
    -- x
    go_wp2_with fail
    refine HS.out.mono ?_
    rintro e wc ⟨u, rfl, hu, hb2⟩
    obtain ⟨A, c, rfl⟩ := own_form hu
    have hS2 := S1.out.more hb2
    have hsl := Pure.stuff_le m bs
    have HF := Lib.hid (feed_any _ _ _ _ _ (Pure.stuff m bs) wc hS2.obj (Row.of_own hu) (fun b hb => S1.out.apart b (ownsRow_ge hu b hb)) (by simp) (by omega))
    have S2 := Lib.hid hS2
    clear hu hb2 hS2 hsl HS S1
    go_wp2_with fail
    refine HF.out.mono ?_
    rintro e wd ⟨x, cx, px, rfl, hpx, hat⟩
    rw [Pure.DF.feed_stuff bs ⟨0, bs.length, [], false, 0⟩ rfl rfl (Pure.Covers.zero m)] at hpx hat
    rw [if_neg (by simp)] at hpx hat
    have hpx2 : px.map Prod.snd = [bs] := by rw [hpx, if_neg (by cases bs <;> simp at o1 ⊢)]
    have S3 := Lib.hid (S2.out.fed hat)
    have KX := Lib.hid hat.kept
    have PX := Lib.hid hpx2
    obtain ⟨AX, lX, rfl⟩ := told_len hat.told
    have HCP := Lib.hid (copy_any _ _ bs wd (S3.out.row HR.out) (fun b hb => Nat.lt_of_lt_of_le hb S3.out.le) (by omega))
    clear hpx hat hpx2 HF S2
    -- y
    go_wp2_with fail
    refine HCP.out.mono ?_
    rintro e we ⟨u, rfl, hu, hb2⟩
    obtain ⟨A2, c2, rfl⟩ := own_form hu
    have U := Lib.hid hu
    have B4 := Lib.hid hb2
    have hsz := hb2.size
    clear hu hb2 HCP
    go_wp2_with (at_builtin; refine stopHere ?_)
    unfold Hid
    refine wp_append_u8 rfl (.tmp 49) (.tmp 50) rfl wd.heap.size _ bs.length bs rfl rfl (ownsRow_keeps U.out ((Keeps.refl nobody _).alloc _) (fun _ _ h => h)) _ _ [9] rfl (row_new we [9] #[.int .u8 9] 1 rfl rfl (by simp)) (by simp; omega) (by simp; omega) ?_
    intro v3 wf hown3 hg3 hat3
    have hbel : Below wd.heap.size we wf := Below.grown ((Below.refl wd.heap.size we).alloc hsz _) hg3 (by simp; omega) (fun q hq => ownsRow_ge U.out q hq)
    have hbd := B4.out.trans hbel
    obtain ⟨l, hl⟩ : ∃ l, l = bs ++ [9] := ⟨_, rfl⟩
    have hll : l.length = bs.length + 1 := by rw [hl]; simp
    have HLL := Lib.hid hll
    have hl1 : bs.length < l.length := by omega
    have hl2 : l.length ≤ 3000 := by omega
    clear hll
    rw [← hl] at hown3
    obtain ⟨A3, c3, rfl⟩ := own_form hown3
    have S5 := Lib.hid (S3.out.more hbd)
    have K5 := Lib.hid (KX.out.more hbd)
    have HS := Lib.hid (stuff_any _ _ l m wf (Row.of_own hown3) (by omega) hm)
    clear hown3 hg3 hat3 hbel hbd hl S3 KX B4 U
    go_wp2_with fail
    refine HS.out.mono ?_
    rintro e wg ⟨u, rfl, hu, hb2⟩
    obtain ⟨A4, c4, rfl⟩ := own_form hu
    have hS2 := S5.out.more hb2
    have hsl := Pure.stuff_le m l
    have HF := Lib.hid (feed_any _ _ _ _ _ (Pure.stuff m l) wg hS2.obj (Row.of_own hu) (fun b hb => S5.out.apart b (ownsRow_ge hu b hb)) (by simp) (by omega))
    have S6 := Lib.hid hS2
    have K6 := Lib.hid (K5.out.more hb2)
    clear hu hb2 hS2 hsl HS S5 K5
    go_wp2_with fail
    refine HF.out.mono ?_
    rintro e wh ⟨y, cy, py, rfl, hpy, hat⟩
    rw [Pure.DF.feed_stuff l ⟨0, bs.length, [], false, 0⟩ rfl rfl (Pure.Covers.zero m)] at hpy hat
    rw [if_pos (by simp; omega)] at hpy hat
    obtain ⟨AY, cY, rfl⟩ := told_none hat.told hpy
    have S7 := Lib.hid (S6.out.fed hat)
    have K7 := Lib.hid (K6.out.fed hat)
    have HS := Lib.hid (stuff_any _ _ cs m wh (S7.out.row HC.out) (by omega) hm)
    clear hpy hat HF S6 K6
    -- z
    go_wp2_with fail
    refine HS.out.mono ?_
    rintro e wi ⟨u, rfl, hu, hb2⟩
    obtain ⟨A5, c5, rfl⟩ := own_form hu
    have hS2 := S7.out.more hb2
    have hsl := Pure.stuff_le m cs
    have HF := Lib.hid (feed_any _ _ _ _ _ (Pure.stuff m cs) wi hS2.obj (Row.of_own hu) (fun b hb => S7.out.apart b (ownsRow_ge hu b hb)) (by simp) (by omega))
    have S8 := Lib.hid hS2
    have K8 := Lib.hid (K7.out.more hb2)
    clear hu hb2 hS2 hsl HS S7 K7
    go_wp2_with fail
    refine HF.out.mono ?_
    rintro e wj ⟨z, cz, pz, rfl, hpz, hat⟩
    rw [Pure.DF.feed_stuff cs ⟨0, bs.length, [], false, 0 + 1⟩ rfl rfl (Pure.Covers.zero m)] at hpz hat
    rw [if_neg (by simp; omega)] at hpz hat
    have hpz2 : pz.map Prod.snd = [cs] := by rw [hpz, if_neg (by cases cs <;> simp at o3 ⊢)]
    have S9 := Lib.hid (S8.out.fed hat)
    have K9 := Lib.hid (K8.out.fed hat)
    have Z9 := Lib.hid hat.kept
    have PZ := Lib.hid hpz2
    obtain ⟨AZ, lZ, rfl⟩ := told_len hat.told
    have FX := Lib.hid (frames_true _ _ _ _ px [(.slice a0 bs.length cap0, bs)] _ (K9.out.alloc (.cells #[.slice a0 bs.length cap0] 28)).told.frow (frow_new wj _ [(.slice a0 bs.length cap0, bs)] #[.slice a0 bs.length cap0] 1 rfl rfl (by simp) (by simpa using S9.out.row HR.out)) (by rw [PX.out]; rfl))
    clear hpz hat hpz2 HF S8 K8 o1 o2 o3 o4 hl1 hl2
    go_wp2_with fail
    refine FX.out.mono ?_
    rintro e wk ⟨rfl, hk⟩
    have S10 := Lib.hid ((S9.out.alloc (.cells #[.slice a0 bs.length cap0] 28)).quiet hk)
    have Z10 := Lib.hid ((Z9.out.alloc (.cells #[.slice a0 bs.length cap0] 28)).quiet hk)
    have FZ := Lib.hid (frames_true _ _ _ _ pz [(.slice a1 cs.length cap1, cs)] _ (Z10.out.alloc (.cells #[.slice a1 cs.length cap1] 28)).told.frow (frow_new wk _ [(.slice a1 cs.length cap1, cs)] #[.slice a1 cs.length cap1] 1 rfl rfl (by simp) (by simpa using S10.out.row HC.out)) (by rw [PZ.out]; rfl))
    clear hk FX K9 S9 Z9
    go_wp2_with fail
    refine FZ.out.mono ?_
    rintro e wl ⟨rfl, hk⟩
    have S11 := Lib.hid ((S10.out.alloc (.cells #[.slice a1 cs.length cap1] 28)).quiet hk)
    have HD := Lib.hid (dropped_any _ _ _ wl S11.out.obj)
    clear hk FZ S10 Z10
    go_wp2_with (go_at_call 16; refine HD.out.mono ?_; rintro e w' ⟨rfl, rfl⟩)
    go_ret
    exact ⟨rfl, S11.out.below⟩
  · by_cases c1 : (bs.length : Int) < 1
    · go_wp2
      go_ret
      exact ⟨rfl, BA.out⟩
    · by_cases c2 : (bs.length : Int) > 2000
      · go_wp2
        go_ret
        exact ⟨rfl, BA.out⟩
      · by_cases c3 : (cs.length : Int) < 1
        · go_wp2
          go_ret
          exact ⟨rfl, BA.out⟩
        · have c4 : (cs.length : Int) > (bs.length : Int) := by omega
          go_wp2
          go_ret
          exact ⟨rfl, BA.out⟩
end Go.Proofs.Ytapcclahekkgpaa
