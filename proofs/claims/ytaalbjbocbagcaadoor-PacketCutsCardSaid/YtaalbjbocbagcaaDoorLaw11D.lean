/- The law PacketJoins, out of what package packet answers. -/
import Derived.Test.YtaalbjbocbagcaaDoorLaw11A
import Derived.Test.YtaalbjbocbagcaaDoorPktLaws
namespace Go.Proofs.YtaalbjbocbagcaaDoor
open Go.RowKit
theorem optCells_append (a b : List (Value × Pure.Opt)) : optCells a ++ optCells b = optCells (a ++ b) := by simp [optCells]
theorem ORow.one {w : World} {F : Nat → Prop} {x : Value} {ps : List (Value × Pure.Opt)} (h : ORow w F x ps) : ∀ u ∈ optCells ps, u.oneCell' = true :=
  optCells_one ps (fun p hp => (h.rows p hp).one)
theorem Row.strong2 {w : World} {F : Nat → Prop} {v : Value} {n : Nat} {xs : List Value} (h : Row w F 2 v n xs) : Row w (fun b => F b ∧ b < w.heap.size) 2 v n xs := by
  obtain ⟨h1, h0, A, c, h2, h3, h4, h5⟩ := h
  refine ⟨h1, h0, A, c, h2, h3, h4, fun hn => ?_⟩
  obtain ⟨b, off, e, f, g⟩ := h5 hn
  refine ⟨b, off, e, ⟨f, ?_⟩, g⟩
  exact cell_lt (g 0 xs[0] (List.getElem?_eq_getElem (by omega)))
theorem ORow.strong {w : World} {F : Nat → Prop} {x : Value} {ps : List (Value × Pure.Opt)} (h : ORow w F x ps) : ORow w (fun b => F b ∧ b < w.heap.size) x ps :=
  ⟨Row.strong2 h.out, fun p hp => Row.strong (h.rows p hp)⟩
set_option maxRecDepth 100000 in
set_option maxHeartbeats 4000000 in
theorem packetJoins_walk' (HEn : EncodeOk) (HDe : DecodeOk) (HOp : OptionsOk) (HSp : SplitOk) (HSa : SameOk) (x y : Value) (ps qs : List (Value × Pure.Opt)) (w : World) (hg : Handle w)
    (hx : ORow w (fun b => b < w.heap.size) x ps) (hy : ORow w (fun b => b < w.heap.size) y qs) :
    Calls Tryd.prog 8 #[x, y] w fun e w' => e = .returned (.bool true) ∧ Below w.heap.size w w' := by
  obtain ⟨A, cA, rfl, _⟩ := hx.form
  obtain ⟨B, cB, rfl, _⟩ := hy.form
  have HGo := Lib.hid hg
  clear hg
  have HX := Lib.hid hx
  have HY := Lib.hid hy
  have hm := hx.out.2.1
  have hm2 := hy.out.2.1
  unfold maxLen at hm hm2
  clear hx hy
  go_enter Tryd.func8, Tryd.ntmps8
  go_wp2_with fail
  refine (awake_any HEn HDe w HGo.out).mono ?_
  rintro e w1 ⟨rfl, hb1⟩
  have H1 := Lib.hid hb1
  have X1 := Lib.hid (HX.out.keeps (Keeps.new hb1) (fun _ _ h => h))
  have Y1 := Lib.hid (HY.out.keeps (Keeps.new hb1) (fun _ _ h => h))
  clear hb1 HX HY
  have S1 := Lib.hid (small_any _ _ ps w1 X1.out)
  have S2 := Lib.hid (small_any _ _ qs w1 Y1.out)
  obtain ⟨s1, hs1⟩ : ∃ s, s = decide (smallOpts (optsOf ps)) := ⟨_, rfl⟩
  obtain ⟨s2, hs2⟩ : ∃ s, s = decide (smallOpts (optsOf qs)) := ⟨_, rfl⟩
  rw [← hs1] at S1
  rw [← hs2] at S2
  have HS1 := Lib.hid hs1
  have HS2 := Lib.hid hs2
  clear hs1 hs2
  go_wp2_with fail
  refine S1.out.mono ?_
  rintro e w1' ⟨rfl, rfl⟩
  clear S1
  cases s1
  · go_wp2
    go_ret
    exact ⟨rfl, H1.out⟩
  go_wp2_with fail
  refine S2.out.mono ?_
  rintro e w1' ⟨rfl, rfl⟩
  clear S2
  cases s2
  · go_wp2
    go_ret
    exact ⟨rfl, H1.out⟩
  have l1 : ps.length ≤ 60 := by
    have := (of_decide_eq_true HS1.out.symm).1
    simpa using this
  have l2 : qs.length ≤ 60 := by
    have := (of_decide_eq_true HS2.out.symm).1
    simpa using this
  obtain ⟨N, hN⟩ : ∃ N, N = ps.length + qs.length := ⟨_, rfl⟩
  have eN : (ps.length : Int) + (qs.length : Int) = (N : Int) := by omega
  have HN := Lib.hid hN
  have hN2 : N ≤ 120 := by omega
  clear hN
  by_cases hbig : 32 < N
  · have d0 : decide ((32 : Int) < (N : Int)) = true := decide_eq_true (by omega)
    go_wp2
    go_ret
    exact ⟨rfl, H1.out⟩
  have d0 : decide ((32 : Int) < (N : Int)) = false := decide_eq_false (by omega)
  obtain ⟨W, hW⟩ : ∃ W, W = w1' := ⟨_, rfl⟩
  rw [← hW] at H1 X1 Y1 ⊢
  clear hW
  have P2 := Lib.hid (HOp _ _ ps W (fun b hb => Nat.lt_of_lt_of_le hb H1.out.size) X1.out)
  obtain ⟨E, hE⟩ : ∃ E, E = (Pure.options (optsOf ps)).1 := ⟨_, rfl⟩
  obtain ⟨O, hO⟩ : ∃ O, O = (Pure.options (optsOf ps)).2 := ⟨_, rfl⟩
  obtain ⟨E2, hE2⟩ : ∃ E, E = (Pure.options (optsOf qs)).1 := ⟨_, rfl⟩
  obtain ⟨O2, hO2⟩ : ∃ O, O = (Pure.options (optsOf qs)).2 := ⟨_, rfl⟩
  have HE := Lib.hid hE
  have HE2 := Lib.hid hE2
  have HO := Lib.hid hO
  have HO2 := Lib.hid hO2
  rw [← hE, ← hO] at P2
  clear hE hO hE2 hO2
  go_wp2_with fail
  refine P2.out.mono ?_
  rintro e w2 ⟨u2, rfl, hu2, hb2⟩
  obtain ⟨A2, c2, rfl⟩ := own_form hu2
  have hk2 := Keeps.new hb2
  have U2 := Lib.hid hu2
  have H2 := Lib.hid (H1.out.trans (hb2.mono H1.out.size))
  have X2 := Lib.hid (X1.out.keeps hk2 (fun _ _ h => h))
  have Y2 := Lib.hid (Y1.out.keeps hk2 (fun _ _ h => h))
  have P3 := Lib.hid (HOp _ _ qs w2 (fun b hb => Nat.lt_of_lt_of_le hb H2.out.size) Y2.out)
  rw [← HE2.out, ← HO2.out] at P3
  clear hu2 hb2 hk2 P2 H1 X1 Y1
  go_wp2_with fail
  refine P3.out.mono ?_
  rintro e w3 ⟨u3, rfl, hu3, hb3⟩
  obtain ⟨A3, c3, rfl⟩ := own_form hu3
  have hk3 := Keeps.new hb3
  have U3 := Lib.hid hu3
  have U23 := Lib.hid (own_quiet U2.out hk3)
  have H3 := Lib.hid (H2.out.trans (hb3.mono H2.out.size))
  have HW3 := Lib.hid (show w.heap.size ≤ w3.heap.size from H3.out.size)
  have X3 := Lib.hid (X2.out.keeps hk3 (fun _ _ h => h))
  have Y3 := Lib.hid (Y2.out.keeps hk3 (fun _ _ h => h))
  clear hu3 hb3 hk3 P3 H2 X2 Y2 U2
  by_cases hz : E = 0
  · by_cases hz2 : E2 = 0
    · subst hz hz2
      obtain ⟨q1, q2, q3⟩ := Pure.options_back (l := optsOf ps) HE.out.symm
      obtain ⟨r1, r2, r3⟩ := Pure.options_back (l := optsOf qs) HE2.out.symm
      have hOj : O = Pure.joined (optsOf ps) := by rw [HO.out, Pure.options_ok (by omega) q3]
      have hOj2 : O2 = Pure.joined (optsOf qs) := by rw [HO2.out, Pure.options_ok (by omega) r3]
      have hsplit : Pure.split (O ++ O2) = (0, optsOf (ps ++ qs)) := by
        have e : optsOf (ps ++ qs) = optsOf ps ++ optsOf qs := by simp
        have := Pure.split_joined (optsOf ps ++ optsOf qs) [] (fun o ho => by
          rcases List.mem_append.1 ho with h | h
          · exact q3 o h
          · exact r3 o h) (by simp; have := HN.out; omega)
        rw [Pure.joined_append, ← hOj, ← hOj2] at this
        rw [e]
        simpa [Pure.split] using this
      have hsame : decide (optsOf ps = optsOf qs) = decide (O = O2) := by
        rw [decide_eq_decide]
        constructor
        · intro h; rw [hOj, hOj2, h]
        · intro h; rw [hOj, hOj2] at h; exact Pure.joined_inj q3 r3 q2 r2 h
      have HSP := Lib.hid hsplit
      have HSA := Lib.hid hsame
      have hOl : O.length ≤ 100000 ∧ O2.length ≤ 100000 := by
        have b1 := Pure.joined_len _ q3
        have b2 := Pure.joined_len _ r3
        rw [← hOj] at b1
        rw [← hOj2] at b2
        exact ⟨by omega, by omega⟩
      obtain ⟨o1, o2⟩ := hOl
      clear hOj hOj2 hsplit hsame q1 q2 q3 r1 r2 r3 HE HE2 HO HO2
      have P4 := Lib.hid (copyL (w0 := w) H3.out (Row.of_own U23.out) (fun b hb => ownsRow_lt U23.out b hb) (by omega))
      go_wp2_with fail
      refine P4.out.mono ?_
      rintro e w4 ⟨A4, c4, rfl, hu4, hk4, hb4⟩
      have U4 := Lib.hid hu4
      have H4 := Lib.hid hb4
      have U24 := Lib.hid (own_quiet U23.out hk4)
      have U34 := Lib.hid (own_quiet U3.out hk4)
      have X4 := Lib.hid (X3.out.keeps hk4 (fun _ _ h => h))
      have Y4 := Lib.hid (Y3.out.keeps hk4 (fun _ _ h => h))
      have H43 := Lib.hid (Keeps.to_below hk4)
      have hlt3 := fun b (hb : (Value.slice A3 O2.length c3).ownBlock = some b) => ownsRow_lt U3.out b hb
      have HLT3 := Lib.hid hlt3
      have hlt2 := fun b (hb : (Value.slice A2 O.length c2).ownBlock = some b) => ownsRow_lt U23.out b hb
      have HLT2 := Lib.hid hlt2
      clear hu4 hk4 hb4 P4 H3 X3 Y3 U23 U3 hlt3 hlt2
      go_wp2_with (at_builtin; refine stopHere ?_)
      unfold Hid
      refine wp_append_u8 rfl (.tmp 47) (.tmp 48) rfl w3.heap.size (.slice A4 O.length c4) O.length O rfl rfl U4.out _ (.slice A3 O2.length c3) O2 rfl (Row.of_own U34.out) (by omega) H43.out.size ?_
      intro v5 w5 hown5 hg5 hat5
      have hk5 : Keeps (fun b => (Value.slice A4 O.length c4).ownBlock = some b) w4 w5 := (Keeps.refl _ w4).grown hg5 (fun k hk _ => hk)
      have hge := fun b (hb : (Value.slice A4 O.length c4).ownBlock = some b) => ownsRow_ge U4.out b hb
      have H5 := Lib.hid (H4.out.grown hg5 H4.out.size (fun k hk => Nat.le_trans (by
        have := H43.out.size
        exact HW3.out) (hge k hk)))
      have U25 := Lib.hid (ownsRow_keeps U24.out hk5 (fun b hb hs => by have h1 := HLT2.out b hb; have h2 := hge b hs; omega))
      have U35 := Lib.hid (ownsRow_keeps U34.out hk5 (fun b hb hs => by have h1 := HLT3.out b hb; have h2 := hge b hs; omega))
      have X5 := Lib.hid (X4.out.keeps hk5 (fun b hb hs => by have h2 := hge b hs; have h3 := HW3.out; have hb : b < w.heap.size := hb; omega))
      have Y5 := Lib.hid (Y4.out.keeps hk5 (fun b hb hs => by have h2 := hge b hs; have h3 := HW3.out; have hb : b < w.heap.size := hb; omega))
      have P6 := HSp _ v5 (O ++ O2) w5 (HGo.out.below H5.out) (fun b hb => ownsRow_lt hown5 b hb) (Row.of_own hown5)
      rw [HSP.out] at P6
      have P6 := Lib.hid P6
      obtain ⟨A5, c5, rfl⟩ := own_form hown5
      clear hown5 hg5 hat5 hk5 hge U24 U34 X4 Y4 H4 H43 U4
      rw [List.length_append] at P6
      go_wp2_with fail
      refine P6.out.mono ?_
      rintro e w6 ⟨u6, rs, rfl, hrs, hu6, hb6⟩
      obtain ⟨A6, c6, rfl, _⟩ := hu6.form
      have hk6 := Keeps.new hb6
      have U6 := Lib.hid hu6
      have HRS := Lib.hid hrs
      have H6 := Lib.hid (H5.out.trans (hb6.mono H5.out.size))
      have U26 := Lib.hid (own_quiet U25.out hk6)
      have U36 := Lib.hid (own_quiet U35.out hk6)
      have X6 := Lib.hid (X5.out.keeps hk6 (fun _ _ h => h))
      have Y6 := Lib.hid (Y5.out.keeps hk6 (fun _ _ h => h))
      clear hrs hu6 hb6 hk6 P6 H5 U25 U35 X5 Y5
      go_wp2_with (at_builtin; refine stopHere ?_)
      unfold Hid
      obtain ⟨wb, hwb⟩ : ∃ wb, wb = w6.alloc (.cells #[] 36) := ⟨_, rfl⟩
      rw [← hwb]
      have hkb : Keeps nobody w6 wb := by rw [hwb]; exact (Keeps.refl _ w6).alloc _
      have hob : wb.ownsRow w6.heap.size 36 2 (.slice (some ⟨w6.heap.size, 0, none⟩) 0 0) 0 [] := by rw [hwb]; exact ownsRow_made w6 w6.heap.size 36 2 (Nat.le_refl _)
      have X7 := X6.out.keeps hkb (fun _ _ h => h)
      obtain ⟨i0, hi0, hz0, hz1, hz2⟩ := info_parts opt_info
      refine BigFrame.wpList_want (by rfl) (fun K hK => ?_)
      refine wp_append_row (.tmp 57) (.tmp 58) _ rfl w6.heap.size 36 i0 _ 2 32 Tryd.underlying29 hi0 hz0 hz1 hz2 rfl (by omega) (.slice (some ⟨w6.heap.size, 0, none⟩) 0 0) 0 [] rfl hob _ (.slice A ps.length cA) ps.length (optCells ps) rfl X7.out X7.one (by unfold maxLen; omega) (by omega) hkb.size ?_
      intro v8 w8 hown8 hg8 hat8
      refine hK _ _ ?_
      clear hK K
      rw [List.nil_append, Nat.zero_add] at hown8
      have hk8 : Keeps (fun b => w6.heap.size ≤ b) w6 w8 := (hkb.mono (fun _ h => h.elim)).grown hg8 (fun k hk _ => ownsRow_ge hob k hk)
      have Y8 := Y6.out.keeps hk8 (fun b hb hs => by have hb : b < w.heap.size := hb; have h2 : w6.heap.size ≤ b := hs; have h3 := H6.out.size; omega)
      obtain ⟨A8, c8, rfl⟩ := own_form hown8
      have hsz8 := hk8.size
      clear X7
      go_wp2_with (at_builtin; refine stopHere ?_)
      unfold Hid
      refine BigFrame.wpList_want (by rfl) (fun K hK => ?_)
      refine wp_append_row (.tmp 59) (.tmp 60) _ rfl w6.heap.size 36 i0 _ 2 32 Tryd.underlying29 hi0 hz0 hz1 hz2 rfl (by omega) (.slice A8 ps.length c8) ps.length (optCells ps) rfl hown8 _ (.slice B qs.length cB) qs.length (optCells qs) rfl Y8.out Y8.one (by unfold maxLen; omega) (by omega) hsz8 ?_
      intro v9 w9 hown9 hg9 hat9
      refine hK _ _ ?_
      clear hK K
      have hk9 : Keeps (fun b => w6.heap.size ≤ b) w6 w9 := hk8.grown hg9 (fun k hk _ => ownsRow_ge hown8 k hk)
      have hold : ∀ b, b < w.heap.size → ¬ w6.heap.size ≤ b := fun b hb => by have := H6.out.size; omega
      have X9 := Lib.hid (X6.out.keeps hk9 (fun b hb => hold b hb))
      have Y9 := Lib.hid (Y6.out.keeps hk9 (fun b hb => hold b hb))
      have U69 := U6.out.strong.keeps hk9 (fun b hb => by have := hb.2; omega)
      have U29 := Lib.hid (ownsRow_keeps U26.out hk9 (fun b hb => by have := ownsRow_lt U26.out b hb; omega))
      have U39 := Lib.hid (ownsRow_keeps U36.out hk9 (fun b hb => by have := ownsRow_lt U36.out b hb; omega))
      rw [optCells_append] at hown9
      have hcat : ORow w9 (fun _ => True) v9 (ps ++ qs) := by
        refine ⟨(by rw [List.length_append]; exact (Row.of_own hown9).mono (fun _ _ => trivial)), fun p hp => ?_⟩
        rcases List.mem_append.1 hp with h | h
        · exact (X9.out.rows p h).mono (fun _ _ => trivial)
        · exact (Y9.out.rows p h).mono (fun _ _ => trivial)
      have H9 := Lib.hid (show Below w.heap.size w w9 from Below.keeps H6.out hk9 H6.out.size (fun i hi => by have hi : w6.heap.size ≤ i := hi; have := H6.out.size; omega))
      have P10 := HSa _ _ _ _ rs (ps ++ qs) w9 U69 hcat
      rw [decide_eq_true HRS.out] at P10
      have P10 := Lib.hid P10
      obtain ⟨A9, c9, rfl⟩ := own_form hown9
      clear hk8 hk9 hown8 hown9 hg8 hg9 hat8 hat9 hob hkb hwb Y8 U69 hcat hi0 hz0 hz1 hz2 hold X6 Y6 U26 U36 U6 H6 hsz8
      try rw [List.length_append] at P10
      go_wp2_with fail
      refine P10.out.mono ?_
      rintro e wc ⟨rfl, hkc⟩
      have H10 := Lib.hid (Below.quiet H9.out hkc H9.out.size)
      have X10 := Lib.hid (X9.out.keeps hkc (fun _ _ h => h))
      have Y10 := Lib.hid (Y9.out.keeps hkc (fun _ _ h => h))
      have U210 := Lib.hid (own_quiet U29.out hkc)
      have U310 := Lib.hid (own_quiet U39.out hkc)
      have P11 := HSa _ _ _ _ ps qs wc X10.out Y10.out
      rw [HSA.out] at P11
      obtain ⟨r, hr⟩ : ∃ r, r = decide (O = O2) := ⟨_, rfl⟩
      rw [← hr] at P11
      have P11 := Lib.hid P11
      have HRr := Lib.hid hr
      clear hkc P10 X9 Y9 U29 U39 H9 hr
      go_wp2_with fail
      refine P11.out.mono ?_
      rintro e wd ⟨rfl, hkd⟩
      have P12 := sameL (w0 := w) (Below.quiet H10.out hkd H10.out.size) (Row.of_own (own_quiet U210.out hkd)) (Row.of_own (own_quiet U310.out hkd))
      rw [← HRr.out] at P12
      have P12 := Lib.hid P12
      clear hkd P11 X10 Y10 U210 U310 H10
      cases r
      · go_wp2_with fail
        refine P12.out.mono ?_
        rintro e we ⟨rfl, _, hbe⟩
        have HE' := Lib.hid hbe
        clear hbe P12
        go_wp2
        go_ret
        exact ⟨rfl, HE'.out⟩
      · go_wp2_with fail
        refine P12.out.mono ?_
        rintro e we ⟨rfl, _, hbe⟩
        have HE' := Lib.hid hbe
        clear hbe P12
        go_wp2
        go_ret
        exact ⟨rfl, HE'.out⟩
    · have d1 : ((E2 : Int) != 0) = true := by rw [bne_iff_ne]; omega
      have d2 : ((E : Int) != 0) = false := by subst hz; rfl
      go_wp2
      go_ret
      exact ⟨rfl, H3.out⟩
  · have d1 : ((E : Int) != 0) = true := by rw [bne_iff_ne]; omega
    go_wp2
    go_ret
    exact ⟨rfl, H3.out⟩
end Go.Proofs.YtaalbjbocbagcaaDoor
