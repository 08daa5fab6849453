/- The walk of the law StuffJoins. -/
import Derived.Test.YtapcclahekkgpaaLaw3C
import Derived.Test.YtapcclahekkgpaaLast
namespace Go.Proofs.Ytapcclahekkgpaa
open Go.RowKit

theorem Pure.DF.feed_rest {m : Nat} (b : List UInt8) (d : Pure.DF) (he : d.esc = false) (hf : d.frame = []) (hm : Pure.Covers m d.accm) (hl : b.length ≤ d.most) (h0 : 0 < b.length) :
    d.feed (Pure.body m b ++ [126]) = (d, [b]) := by
  have h := Pure.DF.feed_stuff b d he hf hm
  obtain ⟨h1, h2⟩ := d.cut_idle he hf
  have e : Pure.stuff m b = [126] ++ (Pure.body m b ++ [126]) := rfl
  rw [e, Pure.DF.feed_append, Pure.DF.feed_flag, h1, h2, if_neg (by omega)] at h
  have h3 : b.isEmpty = false := by cases b <;> simp at h0 ⊢
  rw [h3] at h
  simp only [List.nil_append, Bool.false_eq_true, if_false] at h
  exact h
theorem Pure.DF.feed_two {m : Nat} (a b : List UInt8) (d : Pure.DF) (he : d.esc = false) (hf : d.frame = []) (hm : Pure.Covers m d.accm) (ha : a.length ≤ d.most) (ha0 : 0 < a.length) (hb : b.length ≤ d.most) (hb0 : 0 < b.length) :
    d.feed (Pure.stuff m a ++ (Pure.body m b ++ [126])) = (d, [a, b]) := by
  have h3 : a.isEmpty = false := by cases a <;> simp at ha0 ⊢
  rw [Pure.DF.feed_append, Pure.DF.feed_stuff a d he hf hm, if_neg (by omega), h3]
  simp only
  rw [Pure.DF.feed_rest b d he hf hm hb hb0]
  simp

set_option maxRecDepth 100000 in
set_option maxHeartbeats 4000000 in
theorem stuffJoins_walk (a0 : Option Addr) (len0 cap0 : Nat) (z0 : List Int) (a1 : Option Addr) (len1 cap1 : Nat) (z1 : List Int) (a2 : Int) (w : World) (w0 : IsRow .u8 w a0 len0 cap0 z0) (w1 : IsRow .u8 w a1 len1 cap1 z1) (w2 : (Lit.int .u32 a2).wf = true) :
    Calls Try.prog 9 #[.slice a0 len0 cap0, .slice a1 len1 cap1, .int .u32 a2] w fun e w' => e = .returned (.bool true) ∧ Below w.heap.size w w' := by
  obtain ⟨bs, hbl, hr⟩ := w0.bytes
  obtain ⟨cs, hcl, hr'⟩ := w1.bytes
  obtain ⟨m, rfl⟩ : ∃ m : Nat, a2 = m := ⟨a2.toNat, by have := u32_of_wf w2; omega⟩
  have hm : m < 4294967296 := by have := u32_of_wf w2; omega
  rw [← hbl] at hr ⊢
  rw [← hcl] at hr' ⊢
  have hmax := hr.2.1
  have hmax' := hr'.2.1
  unfold maxLen at hmax hmax'
  have HR := Lib.hid hr
  have HC := Lib.hid hr'
  have HA := Lib.hid (awake_any w)
  clear hr hr' w0 w1 w2 hbl hcl
  go_enter Try.func9, Try.ntmps9
  go_wp2_with fail
  refine HA.out.mono ?_
  rintro e wa ⟨rfl, hba⟩
  have BA := Lib.hid hba
  clear hba HA
  by_cases hok : bs.length ≤ 500 ∧ cs.length ≤ 500 ∧ 0 < bs.length ∧ 0 < cs.length
  · obtain ⟨o1, o2, o3, o4⟩ := hok
    have c1 : ¬ (bs.length : Int) > 500 := by omega
    have c2 : ¬ (cs.length : Int) > 500 := by omega
    have c3 : ¬ (bs.length : Int) = 0 := by omega
    have c4 : ¬ (cs.length : Int) = 0 := by omega
    have g3 : ((bs.length : Int) == 0) = false := by rw [beq_eq_false_iff_ne]; exact c3
    have g4 : ((cs.length : Int) == 0) = false := by rw [beq_eq_false_iff_ne]; exact c4
    have HN : Calls Try.prog 12 #[.int .u32 0, .int .i64 500] wa _ := new_any 0 500 wa (by omega) (by omega) (by omega)
    have HNN := Lib.hid HN
    clear HN
    go_wp2_with fail
    refine HNN.out.mono ?_
    rintro e wb ⟨rfl, hd1, hb1⟩
    have S1 := Lib.hid (Sit.new BA.out hd1 hb1)
    obtain ⟨g, hg⟩ : ∃ g, g = wa.heap.size := ⟨_, rfl⟩
    rw [← hg] at S1 ⊢
    have HS := Lib.hid (stuff_any _ _ bs m wb (S1.out.row HR.out) (by omega) hm)
    clear hd1 hb1 HNN c1 c2 c3 c4 g3 g4 hg
    go_wp2_with fail
    refine HS.out.mono ?_
    rintro e wc ⟨u, rfl, hu, hb2⟩
    obtain ⟨AX, cX, rfl⟩ := own_form hu
    obtain ⟨X, hX⟩ : ∃ X, X = Pure.stuff m bs := ⟨_, rfl⟩
    have hXl : X.length ≤ 1002 := by have := Pure.stuff_le m bs; rw [hX]; omega
    rw [← hX] at hu ⊢
    have S2 := Lib.hid (S1.out.more hb2)
    have U2 := Lib.hid hu
    have HX := Lib.hid hX
    have HS := Lib.hid (stuff_any _ _ cs m wc (S2.out.row HC.out) (by omega) hm)
    have hs1 := hb2.size
    clear hu hb2 S1 hX
    go_wp2_with fail
    refine HS.out.mono ?_
    rintro e wd ⟨u, rfl, hu, hb2⟩
    obtain ⟨AY, cY, rfl⟩ := own_form hu
    obtain ⟨Y, hY⟩ : ∃ Y, Y = Pure.stuff m cs := ⟨_, rfl⟩
    have hYl : Y.length ≤ 1002 := by have := Pure.stuff_le m cs; rw [hY]; omega
    have hYl0 : 2 ≤ Y.length := by have := Pure.stuff_length m cs; rw [hY]; omega
    rw [← hY] at hu ⊢
    obtain ⟨yb, rfl, _⟩ := own_cell hu (by omega)
    have S3 := Lib.hid (S2.out.more hb2)
    have X3 := Lib.hid (ownsRow_keeps U2.out (Keeps.new hb2) (fun _ _ h => h))
    have Y3 := Lib.hid hu
    have HY := Lib.hid hY
    have hs2 := hb2.size
    obtain ⟨q, hq⟩ : ∃ q, Y.length = q + 1 := ⟨Y.length - 1, by omega⟩
    have HQ := Lib.hid hq
    have hq1 : 1 ≤ q := by omega
    have hq2 : q ≤ 1002 := by omega
    have hcY : q + 1 ≤ cY := by
      obtain ⟨_, _, e, hle⟩ := (Row.of_own hu).form
      injection e with _ _ e
      omega
    obtain ⟨T, hT⟩ : ∃ T, T = Pure.body m cs ++ [126] := ⟨_, rfl⟩
    have hYT : Y = 126 :: T := by rw [hY, hT]; rfl
    have hTq : T.length = q := by rw [hYT] at hq; simpa using hq
    have hcut : Row wd (fun b => wc.heap.size ≤ b) 1 (.slice (some ⟨yb, 1, none⟩) q (cY - 1)) T.length (u8s T) := by
      have h1 := (Row.of_own hu).cut1 1 q (by omega)
      rw [hYT] at h1
      have h2 : ((u8s (126 :: T)).drop 1).take q = u8s T := by
        show (u8s T).take q = u8s T
        rw [List.take_of_length_le (by simp; omega)]
      rw [h2, ← hTq] at h1
      rw [hTq] at h1 ⊢
      exact h1.mono (fun b hb => ownsRow_ge hu b (by rw [hYT]; exact hb))
    have HCUT := Lib.hid hcut
    have HT := Lib.hid hT
    have HTQ := Lib.hid hTq
    have hq3 : 1 ≤ (q : Int) + 1 := by omega
    have hcY1 : ¬ cY = 1 := by omega
    rw [hq]
    clear hu hb2 S2 U2 hY hYl hYl0 hq hcut hYT hTq hT
    go_wp2_with fail
    refine wp_region_Z (fun _ => True) 7 8 rfl (by kernel_rfl) trivial (fun _ => ?_)
    refine wpAnyZ_take (i := 0) rfl (by kernel_rfl) (fun _ _ _ h => h) (Or.inl ⟨by rfl, by intro w hSw; go_simp; try with_reducible rfl⟩) trivial ?_
    simp only [Act.put, List.setIfInBounds_toArray, Nat.reduceAdd, List.getElem_toArray, List.getElem_cons_succ, List.getElem_cons_zero, List.set_cons_succ, List.set_cons_zero]
    refine wpAnyZ_take (i := 1) rfl (by kernel_rfl) (fun _ _ _ h => h) (Or.inl ⟨by rfl, by intro w hSw; go_simp; try with_reducible rfl⟩) trivial ?_
    simp only [Act.put, List.setIfInBounds_toArray, Nat.reduceAdd, List.getElem_toArray, List.getElem_cons_succ, List.getElem_cons_zero, List.set_cons_succ, List.set_cons_zero]
    refine wpAnyZ_take (i := 3) rfl (by kernel_rfl) (fun _ _ _ h => h) (Or.inl ⟨by rfl, by intro w hSw; go_simp; try with_reducible rfl⟩) trivial ?_
    simp only [Act.put, List.setIfInBounds_toArray, Nat.reduceAdd, List.getElem_toArray, List.getElem_cons_succ, List.getElem_cons_zero, List.set_cons_succ, List.set_cons_zero]
    refine wpAnyZ_take (i := 4) (v := .slice (some ⟨yb, 1, none⟩) q (cY - 1)) rfl (by kernel_rfl) (fun _ _ _ h => h) (Or.inl ⟨by rfl, by intro w hSw; go_simp; try with_reducible rfl⟩) trivial ?_
    simp only [Act.put, List.setIfInBounds_toArray, Nat.reduceAdd, List.getElem_toArray, List.getElem_cons_succ, List.getElem_cons_zero, List.set_cons_succ, List.set_cons_zero]
    have HCP := Lib.hid (copy_any _ _ X wd.drew (Row.of_own (ownsRow_keeps X3.out (Keeps.refl nobody wd).drew (fun _ _ h => h))) (fun b hb => ownsRow_lt X3.out b hb) (by omega))
    refine wpAnyZ_one (i := 2) (by kernel_rfl) rfl (fun K hK => ?_)
    go_simp
    refine HCP.out.mono ?_
    rintro e we ⟨u, rfl, hu, hb2⟩
    obtain ⟨A5, c5, rfl⟩ := own_form hu
    have U5 := Lib.hid hu
    have B5 := Lib.hid hb2
    have hsz := hb2.size
    clear hu hb2
    refine hK.out _ _ (fun _ => trivial) ?_
    clear hK K
    try simp only [Act.put, List.setIfInBounds_toArray, Nat.reduceAdd, List.getElem_toArray, List.getElem_cons_succ, List.getElem_cons_zero, List.set_cons_succ, List.set_cons_zero]
    refine wpAnyZ_one (i := 5) (by kernel_rfl) rfl (fun K hK => ?_)
    rw [if_pos (by rfl)]
    have hrT : Row we (fun b => wc.heap.size ≤ b) 1 (.slice (some ⟨yb, 1, none⟩) q (cY - 1)) T.length (u8s T) := HCUT.out.keeps ((Keeps.refl nobody wd).drew.trans (Keeps.new B5.out)) (fun _ _ h => h)
    refine wpo_append_u8 (.tmp 46) (.tmp 48) rfl wd.heap.size _ X.length X rfl rfl U5.out _ _ T rfl hrT (by rw [HTQ.out]; omega) hsz ?_
    intro v3 wf hown3 hg3 hat3
    obtain ⟨L, hL⟩ : ∃ L, L = X ++ T := ⟨_, rfl⟩
    have hLl : L.length ≤ 3000 := by rw [hL, List.length_append, HTQ.out]; omega
    rw [← hL] at hown3
    obtain ⟨A6, c6, rfl⟩ := own_form hown3
    have hbel : Below wd.heap.size we wf := Below.grown (Below.refl wd.heap.size we) hg3 hsz (fun q hq => ownsRow_ge U5.out q hq)
    have hbd : Below wd.heap.size wd wf := ((Below.drewN (Below.refl wd.heap.size wd) 1).trans B5.out).trans hbel
    have S6 := Lib.hid (S3.out.more hbd)
    have HF := Lib.hid (feed_any _ _ _ _ _ L wf S6.out.obj (Row.of_own hown3) (fun b hb => S3.out.apart b (ownsRow_ge hown3 b hb)) (by simp) (by omega))
    have HL := Lib.hid hL
    refine hK.out _ _ (fun _ => trivial) ?_
    clear hK K hown3 hg3 hat3 hbel hbd hrT hL
    simp only [Act.put, List.setIfInBounds_toArray, Nat.reduceAdd, List.getElem_toArray, List.getElem_cons_succ, List.getElem_cons_zero, List.set_cons_succ, List.set_cons_zero]
    refine wpAnyZ_one (i := 6) (by kernel_rfl) rfl (fun K hK => ?_)
    go_simp
    refine HF.out.mono ?_
    rintro e wg ⟨x, cx, px, rfl, hpx, hat⟩
    rw [HL.out, HX.out, HT.out, Pure.DF.feed_two bs cs ⟨0, 500, [], false, 0⟩ rfl rfl (Pure.Covers.zero m) o1 o3 o2 o4] at hpx hat
    have S7 := Lib.hid (S6.out.fed hat)
    have K7 := Lib.hid hat.kept
    have PX := Lib.hid hpx
    obtain ⟨A7, c7, rfl⟩ := told_len hat.told
    refine hK.out _ _ (fun _ => trivial) ?_
    clear hK K hpx hat
    try simp only [Act.put, List.setIfInBounds_toArray, Nat.reduceAdd, List.getElem_toArray, List.getElem_cons_succ, List.getElem_cons_zero, List.set_cons_succ, List.set_cons_zero]
    refine wpAnyZ_one (i := 7) (by kernel_rfl) rfl (fun K hK => ?_)
    go_simp
    refine hK.out _ _ (fun _ => trivial) ?_
    refine wpAnyZ_done (by kernel_rfl) ?_ _
    clear hK K hq3 hcY1
    have FX := Lib.hid (frames_true _ _ _ _ px [(.slice a0 bs.length cap0, bs), (.slice a1 cs.length cap1, cs)] _ (K7.out.alloc (.cells #[.slice a0 bs.length cap0, .slice a1 cs.length cap1] 28)).told.frow
      (frow_new wg (fun b => b < w.heap.size) [(.slice a0 bs.length cap0, bs), (.slice a1 cs.length cap1, cs)] #[.slice a0 bs.length cap0, .slice a1 cs.length cap1] 2 rfl rfl (by simp) (by
        intro p hp
        simp only [List.mem_cons, List.not_mem_nil, or_false] at hp
        rcases hp with rfl | rfl
        · exact S7.out.row HR.out
        · exact S7.out.row HC.out)) (by rw [PX.out]; rfl))
    clear o1 o2 o3 o4
    go_wp2_with fail
    refine FX.out.mono ?_
    rintro e wk ⟨rfl, hk⟩
    have S8 := Lib.hid ((S7.out.alloc (.cells #[.slice a0 bs.length cap0, .slice a1 cs.length cap1] 28)).quiet hk)
    have HD := Lib.hid (dropped_any _ _ _ wk S8.out.obj)
    clear hk FX S7 K7
    go_wp2_with (go_at_call 16; refine HD.out.mono ?_; rintro e w' ⟨rfl, rfl⟩)
    go_ret
    exact ⟨rfl, S8.out.below⟩
  · by_cases c1 : (bs.length : Int) > 500
    · go_wp2
      go_ret
      exact ⟨rfl, BA.out⟩
    · by_cases c2 : (cs.length : Int) > 500
      · go_wp2
        go_ret
        exact ⟨rfl, BA.out⟩
      · by_cases c3 : (bs.length : Int) = 0
        · go_wp2
          go_ret
          exact ⟨rfl, BA.out⟩
        · have c4 : (cs.length : Int) = 0 := by omega
          have g3 : ((bs.length : Int) == 0) = false := by rw [beq_eq_false_iff_ne]; exact c3
          go_wp2
          go_ret
          exact ⟨rfl, BA.out⟩
end Go.Proofs.Ytapcclahekkgpaa
