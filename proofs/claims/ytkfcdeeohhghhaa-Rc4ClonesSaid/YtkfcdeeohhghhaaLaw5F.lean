/- The walk of the law Rc4Clones. -/
import Derived.Test.YtkfcdeeohhghhaaLaw5A
import Derived.Test.YtkfcdeeohhghhaaLast
namespace Go.Proofs.Ytkfcdeeohhghhaa
open Go.RowKit

theorem wpo_make {o : Oper} {a : Act} {w : World} {K : Act → World → Prop} {Q : Exit → Act → World → Prop} (l c : Operand) (hop : o.op = Op.makeSlice 27 l c) (n : Nat) (hl : a.eval l = .int .i64 n) (hc : a.eval c = .int .i64 n) (hn : n ≤ 1000000000)
    (h : ∀ w', w'.ownsRow w.heap.size 5 1 (.slice (some ⟨w.heap.size, 0, none⟩) n n) n (u8s (List.replicate n 0)) → Keeps nobody w w' → K (a.put o.dst (.slice (some ⟨w.heap.size, 0, none⟩) n n)) w') : o.wp Try.prog a w K Q := by
  obtain ⟨i0, hi0, hz0, hz1, hz2⟩ := info_parts u8_info
  obtain ⟨w', hrun, r1, r2⟩ := run_make_full (P := Try.prog) w w.heap.size 27 5 i0 _ 1 Try.underlying27 hi0 hz0 hz1 .i64 .i64 n (by rw [hz2]; omega) (by unfold maxLen; omega) (Nat.le_refl _)
  rw [show (Value.int .u8 0).cells = #[.int .u8 0] from rfl, made_cells rfl] at r1
  unfold Oper.wp
  simp only [execOp, hop, hl, hc, Sem.run_bind, hrun, Result.andThen]
  exact h w' r1 (Keeps.new (Below.grown (Below.refl _ w) r2 (Nat.le_refl _) (by simp)))

set_option maxRecDepth 100000 in
set_option maxHeartbeats 8000000 in
theorem rc4Clones_walk (a0 : Option Addr) (len0 cap0 : Nat) (z0 : List Int) (a1 : Option Addr) (len1 cap1 : Nat) (z1 : List Int) (a2 : Option Addr) (len2 cap2 : Nat) (z2 : List Int) (w : World) (w0 : IsRow .u8 w a0 len0 cap0 z0) (w1 : IsRow .u8 w a1 len1 cap1 z1) (w2 : IsRow .u8 w a2 len2 cap2 z2) :
    Calls Try.prog 8 #[.slice a0 len0 cap0, .slice a1 len1 cap1, .slice a2 len2 cap2] w fun e w' => e = .returned (.bool true) ∧ Below w.heap.size w w' := by
  obtain ⟨ks, hkl, hr⟩ := w0.bytes
  obtain ⟨xs, hal, hra⟩ := w1.bytes
  obtain ⟨ys, hbl, hrb⟩ := w2.bytes
  rw [← hkl] at hr ⊢
  rw [← hal] at hra ⊢
  rw [← hbl] at hrb ⊢
  have hmax := hr.2.1
  have hmaxa := hra.2.1
  have hmaxb := hrb.2.1
  unfold maxLen at hmax hmaxa hmaxb
  have HK := Lib.hid hr
  have RA := Lib.hid hra
  have RB := Lib.hid hrb
  have HA := Lib.hid (awake_any w)
  clear hr hra hrb w0 w1 w2 hkl hal hbl
  go_enter Try.func8, Try.ntmps8
  go_wp2_with fail
  refine HA.out.mono ?_
  rintro e wa ⟨rfl, hba⟩
  have BA := Lib.hid hba
  clear hba HA
  by_cases hok : 0 < ks.length ∧ ks.length ≤ 256 ∧ xs.length ≤ 500 ∧ ys.length ≤ 500
  · obtain ⟨o1, o2, o3, o4⟩ := hok
    have c1 : ¬ (ks.length : Int) = 0 := by omega
    have g1 : ((ks.length : Int) == 0) = false := by rw [beq_eq_false_iff_ne]; exact c1
    have g2 : (decide ((ks.length : Int) > 256)) = false := by simp; omega
    have g3 : (decide ((xs.length : Int) > 500)) = false := by simp; omega
    have g4 : (decide ((ys.length : Int) > 500)) = false := by simp; omega
    have HN := Lib.hid (newL BA.out (HK.out.keeps (Keeps.new BA.out) (fun _ _ h => h)) o1 o2)
    have hwa := BA.out.size
    clear c1
    go_wp2_with fail
    with_reducible refine HN.out.mono ?_
    rintro e wb ⟨x, rfl, hx, ox, _, hbb⟩
    obtain ⟨c, hc⟩ : ∃ c, c = Pure.Rc.new ks := ⟨_, rfl⟩
    have hn0 : c.n = 0 := by rw [hc]; rfl
    rw [← hc] at ox
    have hxw : w.heap.size ≤ x := by omega
    have hx2 := ox.lt
    have HX := Lib.hid (xorL hbb ox hxw (RA.out.keeps (Keeps.new hbb) (fun _ _ h => h)) (by omega) (by omega) (by omega))
    clear ox hbb hx HN hc g1 g2 g3 g4
    go_wp2_with fail
    with_reducible refine HX.out.mono ?_
    rintro e wc ⟨A1, k1, rfl, _, hX1, hK, hB1⟩
    obtain ⟨c1, hc1⟩ : ∃ c1, c1 = (c.xor xs).1 := ⟨_, rfl⟩
    have hn1 : c1.n = xs.length := by rw [hc1, Pure.Rc.xor_n]; omega
    rw [← hc1] at hX1
    have X1 := Lib.hid hX1
    have hbc := hK.size
    have HC := Lib.hid (cloneL hB1 hX1)
    clear hX1 hK hB1 HX hc1
    go_wp2_with fail
    with_reducible refine HC.out.mono ?_
    rintro e wd ⟨y, rfl, hy, oy, hkd, hbd⟩
    have X2 := Lib.hid (X1.out.keeps hkd (fun h => h))
    have Y2 := Lib.hid oy
    have hx3 := X1.out.lt
    have hxy : x < y := by omega
    have hy2 := oy.lt
    have HX := Lib.hid (xorL hbd X2.out hxw (RB.out.keeps (Keeps.new hbd) (fun _ _ h => h)) (by omega) (by omega) (by omega))
    clear oy hkd hbd hy HC X1
    go_wp2_with fail
    with_reducible refine HX.out.mono ?_
    rintro e we ⟨A2, k2, rfl, hu, hX3, hK, hB3⟩
    have U3 := Lib.hid hu
    have Y3 := Lib.hid (Y2.out.keeps hK (fun h => by unfold only at h; omega))
    have hde := hK.size
    have hn3 : (c1.xor ys).1.n = xs.length + ys.length := by rw [Pure.Rc.xor_n]; omega
    obtain ⟨c2, hc2⟩ : ∃ c2, c2 = (c1.xor ys).1 := ⟨_, rfl⟩
    rw [← hc2] at hX3 hn3
    have HX2 := Lib.hid (xorL hB3 hX3 hxw (RA.out.keeps (Keeps.new hB3) (fun _ _ h => h)) (by omega) (by omega) (by omega))
    clear hu hX3 hK hB3 HX X2 Y2
    go_wp2_with fail
    with_reducible refine HX2.out.mono ?_
    rintro e wf ⟨A3, k3, rfl, _, hX4, hK, hB4⟩
    have hn4 : (c2.xor xs).1.n = 2 * xs.length + ys.length := by rw [Pure.Rc.xor_n]; omega
    have U4 := Lib.hid (own_only U3.out hK (by omega))
    have X4 := Lib.hid hX4
    have Y4 := Lib.hid (Y3.out.keeps hK (fun h => by unfold only at h; omega))
    have hef := hK.size
    have HX := Lib.hid (xorL hB4 Y4.out (by omega) (RB.out.keeps (Keeps.new hB4) (fun _ _ h => h)) (by omega) (by omega) (by omega))
    clear hX4 hK hB4 HX2 U3 Y3 hc2
    go_wp2_with fail
    with_reducible refine HX.out.mono ?_
    rintro e wg ⟨A5, k5, rfl, hv, hY5, hK, hB5⟩
    have X5 := Lib.hid (X4.out.keeps hK (fun h => by unfold only at h; omega))
    have Y5 := Lib.hid hY5
    have hn5 : (c1.xor ys).1.n = xs.length + ys.length := by rw [Pure.Rc.xor_n]; omega
    have HN5 := Lib.hid hn5
    have HN4 := Lib.hid hn4
    have hfg := hK.size
    have HS := Lib.hid (sameY hB5 (Row.of_own (own_only U4.out hK (by omega))) (Row.of_own hv) (Pure.Rc.xor_length ys c1) rfl)
    clear hv hY5 hK hB5 HX U4 X4 Y4 hn0 hn1 hn3 hn4 hn5
    go_wp2_with fail
    with_reducible refine HS.out.mono ?_
    rintro e wh ⟨rfl, hkh, hbh⟩
    have X6 := Lib.hid (X5.out.keeps hkh (fun h => h))
    have Y6 := Lib.hid (Y5.out.keeps hkh (fun h => h))
    have OY := Lib.hid (offsetL Y6.out)
    have OX := Lib.hid (offsetL X6.out)
    rw [HN5.out] at OY
    rw [HN4.out] at OX
    have hgh := hkh.size
    have B6 := Lib.hid hbh
    clear hkh hbh HS X5 Y5
    have e1 : ((xs.length + ys.length : Nat) : Int) = (xs.length : Int) + (ys.length : Int) := by omega
    have e2 : ((2 * xs.length + ys.length : Nat) : Int) = 2 * (xs.length : Int) + (ys.length : Int) := by omega
    have e3 : (((xs.length : Int) + (ys.length : Int)) != ((xs.length : Int) + (ys.length : Int))) = false := by simp
    rw [e1] at OY
    rw [e2] at OX
    have HE := Lib.hid (And.intro e1 e2)
    clear e1 e2
    go_wp2_with fail
    with_reducible refine OY.out.mono ?_
    rintro e w' ⟨rfl, rfl⟩
    go_wp2_with fail
    with_reducible refine OX.out.mono ?_
    rintro e w' ⟨rfl, rfl⟩
    go_wp2_with fail
    have HS1 := Lib.hid (symbolL (id := ks.length) B6.out)
    with_reducible refine HS1.out.mono ?_
    rintro e wi ⟨s, rfl, hs, hT, _, hbi⟩
    have hwh := B6.out.size
    have hsw : w.heap.size ≤ s := by omega
    have hs2 := hT.lt
    have HX := Lib.hid (xorT (A := a1) (len := xs.length) (cap := cap1) hbi hT hsw (by omega) (by omega))
    clear hT hbi hs HS1 OX OY X6 Y6 B6
    go_wp2_with fail
    with_reducible refine HX.out.mono ?_
    rintro e wj ⟨A6, k6, rfl, _, hS1, hK, hB6⟩
    rw [Nat.zero_add] at hS1
    have S1 := Lib.hid hS1
    have HC := Lib.hid (cloneT hB6 hS1)
    have hij := hK.size
    clear hS1 hK hB6 HX
    go_wp2_with fail
    with_reducible refine HC.out.mono ?_
    rintro e wk ⟨t, rfl, ht, hT, hkk, hbk⟩
    have S2 := Lib.hid (S1.out.keeps hkk (fun h => h))
    have T2 := Lib.hid hT
    have hst : s < t := by have := S1.out.lt; omega
    have ht2 := hT.lt
    have BK := Lib.hid hbk
    clear hT hkk hbk ht HC S1 e3
    have hn9 : xs.length + ys.length < 1000000000 := by omega
    go_upto_region 18 with fail
    refine wp_region_Z (fun _ => True) 16 17 rfl (by kernel_rfl) trivial (fun _ => ?_)
    refine wpAnyZ_take (i := 0) rfl (by kernel_rfl) (fun _ _ _ h => h) (Or.inl ⟨by rfl, by intro w hSw; go_simp; try with_reducible rfl⟩) trivial ?_
    try simp only [Act.put, List.setIfInBounds_toArray, Nat.reduceAdd, List.getElem_toArray, List.getElem_cons_succ, List.getElem_cons_zero, List.set_cons_succ, List.set_cons_zero]
    refine wpAnyZ_take (i := 1) rfl (by kernel_rfl) (fun _ _ _ h => h) (Or.inl ⟨by rfl, by intro w hSw; go_simp; try with_reducible rfl⟩) trivial ?_
    try simp only [Act.put, List.setIfInBounds_toArray, Nat.reduceAdd, List.getElem_toArray, List.getElem_cons_succ, List.getElem_cons_zero, List.set_cons_succ, List.set_cons_zero]
    refine wpAnyZ_take (i := 3) rfl (by kernel_rfl) (fun _ _ _ h => h) (Or.inl ⟨by rfl, by intro w hSw; go_simp; try with_reducible rfl⟩) trivial ?_
    try simp only [Act.put, List.setIfInBounds_toArray, Nat.reduceAdd, List.getElem_toArray, List.getElem_cons_succ, List.getElem_cons_zero, List.set_cons_succ, List.set_cons_zero]
    refine wpAnyZ_take (i := 4) rfl (by kernel_rfl) (fun _ _ _ h => h) (Or.inl ⟨by rfl, by intro w hSw; go_simp; try with_reducible rfl⟩) trivial ?_
    try simp only [Act.put, List.setIfInBounds_toArray, Nat.reduceAdd, List.getElem_toArray, List.getElem_cons_succ, List.getElem_cons_zero, List.set_cons_succ, List.set_cons_zero]
    refine wpAnyZ_take (i := 5) rfl (by kernel_rfl) (fun _ _ _ h => h) (Or.inl ⟨by rfl, by intro w hSw; go_simp; try with_reducible rfl⟩) trivial ?_
    try simp only [Act.put, List.setIfInBounds_toArray, Nat.reduceAdd, List.getElem_toArray, List.getElem_cons_succ, List.getElem_cons_zero, List.set_cons_succ, List.set_cons_zero]
    have hk1 : Keeps (only s) wk wk.drew := (Keeps.refl _ wk).drew
    have HX1 := Lib.hid (xorT (A := a2) (len := ys.length) (cap := cap2) (below_drew BK.out) (S2.out.keeps (Keeps.refl nobody wk).drew (fun h => h)) hsw (by omega) hn9)
    refine wpAnyZ_two (i := 2) (j := 6) (by kernel_rfl) rfl rfl (fun K hK => ?_) (fun K hK => ?_)
    · go_simp
      with_reducible refine HX1.out.mono ?_
      rintro e wl ⟨A7, k7, rfl, hu, hS, hKl, hBl⟩
      refine hK.out _ _ (fun _ => trivial) ?_
      clear hK K
      try simp only [Act.put, List.setIfInBounds_toArray, Nat.reduceAdd, List.getElem_toArray, List.getElem_cons_succ, List.getElem_cons_zero, List.set_cons_succ, List.set_cons_zero]
      refine wpAnyZ_one (i := 6) (by kernel_rfl) rfl (fun K hK => ?_)
      rw [if_pos (by rfl)]
      refine wpo_make (.tmp 93) (.tmp 93) rfl ys.length rfl rfl (by omega) ?_
      intro wm hm hkm
      have U9 := Lib.hid (own_quiet hu hkm)
      have S9 := Lib.hid (hS.keeps hkm (fun h => h))
      have T9 := Lib.hid ((T2.out.keeps (hk1.trans hKl) (fun h => by unfold only at h; omega)).keeps hkm (fun h => h))
      have BM := Lib.hid (Below.quiet hBl hkm hBl.size)
      obtain ⟨m, hmm⟩ : ∃ m, m = wl.heap.size := ⟨_, rfl⟩
      rw [← hmm]
      refine hK.out _ _ (fun _ => trivial) ?_
      clear hK K hmm hm hkm hu hS hKl hBl wl
      try simp only [Act.put, List.setIfInBounds_toArray, Nat.reduceAdd, List.getElem_toArray, List.getElem_cons_succ, List.getElem_cons_zero, List.set_cons_succ, List.set_cons_zero]
      have htw : w.heap.size ≤ t := by omega
      have hslt := S9.out.lt
      have hwk : wk.drew.heap.size = wk.heap.size := rfl
      have HY := Lib.hid (xorT (A := some ⟨m, 0, none⟩) (len := ys.length) (cap := ys.length) BM.out T9.out htw (by omega) hn9)
      refine wpAnyZ_one (i := 7) (by kernel_rfl) rfl (fun K hK => ?_)
      go_simp
      with_reducible refine HY.out.mono ?_
      rintro e wn ⟨A8, k8, rfl, hv, hT, hKn, hBn⟩
      have HS := Lib.hid (sameY hBn (Row.of_own (own_only U9.out hKn (by omega))) (Row.of_own hv) (Pure.term_length _ _ _) rfl)
      have S10 := Lib.hid (S9.out.keeps hKn (fun h => by unfold only at h; omega))
      have T10 := Lib.hid hT
      refine hK.out _ _ (fun _ => trivial) ?_
      clear hK K hv hT hKn hBn U9 S9 T9 BM HY
      try simp only [Act.put, List.setIfInBounds_toArray, Nat.reduceAdd, List.getElem_toArray, List.getElem_cons_succ, List.getElem_cons_zero, List.set_cons_succ, List.set_cons_zero]
      refine wpAnyZ_one (i := 8) (by kernel_rfl) rfl (fun K hK => ?_)
      go_simp
      with_reducible refine HS.out.mono ?_
      rintro e wo ⟨rfl, hko, hbo⟩
      have BO := Lib.hid hbo
      have OS := Lib.hid (offsetT (S10.out.keeps hko (fun h => h)))
      have OT := Lib.hid (offsetT (T10.out.keeps hko (fun h => h)))
      refine hK.out _ _ (fun _ => trivial) ?_
      clear hK K hko hbo S10 T10 HS
      try simp only [Act.put, List.setIfInBounds_toArray, Nat.reduceAdd, List.getElem_toArray, List.getElem_cons_succ, List.getElem_cons_zero, List.set_cons_succ, List.set_cons_zero]
      refine wpAnyZ_take (i := 9) rfl (by kernel_rfl) (fun _ _ _ h => h) (Or.inl ⟨by rfl, by intro w hSw; go_simp; try with_reducible rfl⟩) trivial ?_
      try simp only [Act.put, List.setIfInBounds_toArray, Nat.reduceAdd, List.getElem_toArray, List.getElem_cons_succ, List.getElem_cons_zero, List.set_cons_succ, List.set_cons_zero]
      refine wpAnyZ_take (i := 10) rfl (by kernel_rfl) (fun _ _ _ h => h) (Or.inl ⟨by rfl, by intro w hSw; go_simp; try with_reducible rfl⟩) trivial ?_
      try simp only [Act.put, List.setIfInBounds_toArray, Nat.reduceAdd, List.getElem_toArray, List.getElem_cons_succ, List.getElem_cons_zero, List.set_cons_succ, List.set_cons_zero]
      refine wpAnyZ_take (i := 12) rfl (by kernel_rfl) (fun _ _ _ h => h) (Or.inl ⟨by rfl, by intro w hSw; go_simp; try with_reducible rfl⟩) trivial ?_
      try simp only [Act.put, List.setIfInBounds_toArray, Nat.reduceAdd, List.getElem_toArray, List.getElem_cons_succ, List.getElem_cons_zero, List.set_cons_succ, List.set_cons_zero]
      refine wpAnyZ_one (i := 11) (by kernel_rfl) rfl (fun K hK => ?_)
      go_simp
      with_reducible refine OS.out.mono ?_
      rintro e w' ⟨rfl, rfl⟩
      refine hK.out _ _ (fun _ => trivial) ?_
      clear hK K
      try simp only [Act.put, List.setIfInBounds_toArray, Nat.reduceAdd, List.getElem_toArray, List.getElem_cons_succ, List.getElem_cons_zero, List.set_cons_succ, List.set_cons_zero]
      refine wpAnyZ_one (i := 13) (by kernel_rfl) rfl (fun K hK => ?_)
      go_simp
      with_reducible refine OT.out.mono ?_
      rintro e w' ⟨rfl, rfl⟩
      refine hK.out _ _ (fun _ => trivial) ?_
      clear hK K
      try simp only [Act.put, List.setIfInBounds_toArray, Nat.reduceAdd, List.getElem_toArray, List.getElem_cons_succ, List.getElem_cons_zero, List.set_cons_succ, List.set_cons_zero]
      refine wpAnyZ_take (i := 14) rfl (by kernel_rfl) (fun _ _ _ h => h) (Or.inl ⟨by rfl, by intro w hSw; go_simp; try with_reducible rfl⟩) trivial ?_
      try simp only [Act.put, List.setIfInBounds_toArray, Nat.reduceAdd, List.getElem_toArray, List.getElem_cons_succ, List.getElem_cons_zero, List.set_cons_succ, List.set_cons_zero]
      refine wpAnyZ_take (i := 15) rfl (by kernel_rfl) (fun _ _ _ h => h) (Or.inl ⟨by rfl, by intro w hSw; go_simp; try with_reducible rfl⟩) trivial ?_
      try simp only [Act.put, List.setIfInBounds_toArray, Nat.reduceAdd, List.getElem_toArray, List.getElem_cons_succ, List.getElem_cons_zero, List.set_cons_succ, List.set_cons_zero]
      refine wpAnyZ_one (i := 16) (by kernel_rfl) rfl (fun K hK => ?_)
      go_simp
      refine hK.out _ _ (fun h => absurd rfl h) ?_
      clear hK K
      refine wpAnyZ_done (by kernel_rfl) ?_ _
      go_wp2
      go_ret
      exact ⟨rfl, BO.out⟩
    · rw [if_pos (by rfl)]
      refine wpo_make (.tmp 93) (.tmp 93) rfl ys.length rfl rfl (by omega) ?_
      intro wl hm hkm
      have hbl := Below.quiet (below_drew BK.out) hkm (below_drew BK.out).size
      have HX2 := Lib.hid (xorT (A := a2) (len := ys.length) (cap := cap2) hbl ((S2.out.keeps (Keeps.refl nobody wk).drew (fun h => h)).keeps hkm (fun h => h)) hsw (by omega) hn9)
      have hszl := hkm.size
      obtain ⟨m, hmm⟩ : ∃ m, m = wk.drew.heap.size := ⟨_, rfl⟩
      rw [← hmm]
      refine hK.out _ _ (fun _ => trivial) ?_
      clear hK K hmm hm
      try simp only [Act.put, List.setIfInBounds_toArray, Nat.reduceAdd, List.getElem_toArray, List.getElem_cons_succ, List.getElem_cons_zero, List.set_cons_succ, List.set_cons_zero]
      refine wpAnyZ_one (i := 2) (by kernel_rfl) rfl (fun K hK => ?_)
      go_simp
      with_reducible refine HX2.out.mono ?_
      rintro e wm ⟨A7, k7, rfl, hu, hS, hKl, hBl⟩
      have U9 := Lib.hid (show wm.ownsRow wk.drew.heap.size 5 1 (.slice A7 ys.length k7) ys.length (u8s (Pure.term ks.length xs.length ys.length)) from ownsRow_base hu hszl)
      have S9 := Lib.hid hS
      have T9 := Lib.hid (((T2.out.keeps hk1 (fun h => by unfold only at h; omega)).keeps hkm (fun h => h)).keeps hKl (fun h => by unfold only at h; omega))
      have BM := Lib.hid hBl
      refine hK.out _ _ (fun _ => trivial) ?_
      clear hK K hkm hu hS hKl hBl hszl HX2 hbl wl
      try simp only [Act.put, List.setIfInBounds_toArray, Nat.reduceAdd, List.getElem_toArray, List.getElem_cons_succ, List.getElem_cons_zero, List.set_cons_succ, List.set_cons_zero]
      have htw : w.heap.size ≤ t := by omega
      have hslt := S9.out.lt
      have hwk : wk.drew.heap.size = wk.heap.size := rfl
      have HY := Lib.hid (xorT (A := some ⟨m, 0, none⟩) (len := ys.length) (cap := ys.length) BM.out T9.out htw (by omega) hn9)
      refine wpAnyZ_one (i := 7) (by kernel_rfl) rfl (fun K hK => ?_)
      go_simp
      with_reducible refine HY.out.mono ?_
      rintro e wn ⟨A8, k8, rfl, hv, hT, hKn, hBn⟩
      have HS := Lib.hid (sameY hBn (Row.of_own (own_only U9.out hKn (by omega))) (Row.of_own hv) (Pure.term_length _ _ _) rfl)
      have S10 := Lib.hid (S9.out.keeps hKn (fun h => by unfold only at h; omega))
      have T10 := Lib.hid hT
      refine hK.out _ _ (fun _ => trivial) ?_
      clear hK K hv hT hKn hBn U9 S9 T9 BM HY
      try simp only [Act.put, List.setIfInBounds_toArray, Nat.reduceAdd, List.getElem_toArray, List.getElem_cons_succ, List.getElem_cons_zero, List.set_cons_succ, List.set_cons_zero]
      refine wpAnyZ_one (i := 8) (by kernel_rfl) rfl (fun K hK => ?_)
      go_simp
      with_reducible refine HS.out.mono ?_
      rintro e wo ⟨rfl, hko, hbo⟩
      have BO := Lib.hid hbo
      have OS := Lib.hid (offsetT (S10.out.keeps hko (fun h => h)))
      have OT := Lib.hid (offsetT (T10.out.keeps hko (fun h => h)))
      refine hK.out _ _ (fun _ => trivial) ?_
      clear hK K hko hbo S10 T10 HS
      try simp only [Act.put, List.setIfInBounds_toArray, Nat.reduceAdd, List.getElem_toArray, List.getElem_cons_succ, List.getElem_cons_zero, List.set_cons_succ, List.set_cons_zero]
      refine wpAnyZ_take (i := 9) rfl (by kernel_rfl) (fun _ _ _ h => h) (Or.inl ⟨by rfl, by intro w hSw; go_simp; try with_reducible rfl⟩) trivial ?_
      try simp only [Act.put, List.setIfInBounds_toArray, Nat.reduceAdd, List.getElem_toArray, List.getElem_cons_succ, List.getElem_cons_zero, List.set_cons_succ, List.set_cons_zero]
      refine wpAnyZ_take (i := 10) rfl (by kernel_rfl) (fun _ _ _ h => h) (Or.inl ⟨by rfl, by intro w hSw; go_simp; try with_reducible rfl⟩) trivial ?_
      try simp only [Act.put, List.setIfInBounds_toArray, Nat.reduceAdd, List.getElem_toArray, List.getElem_cons_succ, List.getElem_cons_zero, List.set_cons_succ, List.set_cons_zero]
      refine wpAnyZ_take (i := 12) rfl (by kernel_rfl) (fun _ _ _ h => h) (Or.inl ⟨by rfl, by intro w hSw; go_simp; try with_reducible rfl⟩) trivial ?_
      try simp only [Act.put, List.setIfInBounds_toArray, Nat.reduceAdd, List.getElem_toArray, List.getElem_cons_succ, List.getElem_cons_zero, List.set_cons_succ, List.set_cons_zero]
      refine wpAnyZ_one (i := 11) (by kernel_rfl) rfl (fun K hK => ?_)
      go_simp
      with_reducible refine OS.out.mono ?_
      rintro e w' ⟨rfl, rfl⟩
      refine hK.out _ _ (fun _ => trivial) ?_
      clear hK K
      try simp only [Act.put, List.setIfInBounds_toArray, Nat.reduceAdd, List.getElem_toArray, List.getElem_cons_succ, List.getElem_cons_zero, List.set_cons_succ, List.set_cons_zero]
      refine wpAnyZ_one (i := 13) (by kernel_rfl) rfl (fun K hK => ?_)
      go_simp
      with_reducible refine OT.out.mono ?_
      rintro e w' ⟨rfl, rfl⟩
      refine hK.out _ _ (fun _ => trivial) ?_
      clear hK K
      try simp only [Act.put, List.setIfInBounds_toArray, Nat.reduceAdd, List.getElem_toArray, List.getElem_cons_succ, List.getElem_cons_zero, List.set_cons_succ, List.set_cons_zero]
      refine wpAnyZ_take (i := 14) rfl (by kernel_rfl) (fun _ _ _ h => h) (Or.inl ⟨by rfl, by intro w hSw; go_simp; try with_reducible rfl⟩) trivial ?_
      try simp only [Act.put, List.setIfInBounds_toArray, Nat.reduceAdd, List.getElem_toArray, List.getElem_cons_succ, List.getElem_cons_zero, List.set_cons_succ, List.set_cons_zero]
      refine wpAnyZ_take (i := 15) rfl (by kernel_rfl) (fun _ _ _ h => h) (Or.inl ⟨by rfl, by intro w hSw; go_simp; try with_reducible rfl⟩) trivial ?_
      try simp only [Act.put, List.setIfInBounds_toArray, Nat.reduceAdd, List.getElem_toArray, List.getElem_cons_succ, List.getElem_cons_zero, List.set_cons_succ, List.set_cons_zero]
      refine wpAnyZ_one (i := 16) (by kernel_rfl) rfl (fun K hK => ?_)
      go_simp
      refine hK.out _ _ (fun h => absurd rfl h) ?_
      clear hK K
      refine wpAnyZ_done (by kernel_rfl) ?_ _
      go_wp2
      go_ret
      exact ⟨rfl, BO.out⟩
  · by_cases c1 : (ks.length : Int) = 0
    · have g1 : ((ks.length : Int) == 0) = true := by rw [beq_iff_eq]; exact c1
      go_wp2
      go_ret
      exact ⟨rfl, BA.out⟩
    · have g1 : ((ks.length : Int) == 0) = false := by rw [beq_eq_false_iff_ne]; exact c1
      by_cases c2 : (ks.length : Int) > 256
      · go_wp2
        go_ret
        exact ⟨rfl, BA.out⟩
      · by_cases c3 : (xs.length : Int) > 500
        · go_wp2
          go_ret
          exact ⟨rfl, BA.out⟩
        · have c4 : (ys.length : Int) > 500 := by omega
          go_wp2
          go_ret
          exact ⟨rfl, BA.out⟩
end Go.Proofs.Ytkfcdeeohhghhaa
