/- The law PacketBack. -/
import Derived.Test.YtaalbjbocbagcaaDoorLaw11E
import Derived.Test.YtaalbjbocbagcaaDoorPktLaws
import Derived.Deep.DeepCutAuto
namespace Go.Proofs.YtaalbjbocbagcaaDoor
open Go.RowKit
theorem Row.strong2' {w : World} {F : Nat → Prop} {v : Value} {n : Nat} {xs : List Value} (h : Row w F 2 v n xs) : Row w (fun b => F b ∧ b < w.heap.size) 2 v n xs := by
  obtain ⟨h1, h0, A, c, h2, h3, h4, h5⟩ := h
  refine ⟨h1, h0, A, c, h2, h3, h4, fun hn => ?_⟩
  obtain ⟨b, off, e, f, g⟩ := h5 hn
  refine ⟨b, off, e, ⟨f, ?_⟩, g⟩
  exact cell_lt (g 0 xs[0] (List.getElem?_eq_getElem (by omega)))
theorem ORow.strong' {w : World} {F : Nat → Prop} {x : Value} {ps : List (Value × Pure.Opt)} (h : ORow w F x ps) : ORow w (fun b => F b ∧ b < w.heap.size) x ps :=
  ⟨Row.strong2' h.out, fun p hp => Row.strong (h.rows p hp)⟩
theorem Pure.encode_zero {p : Pure.Pkt} (h : (Pure.encode p).1 = 0) : ¬ p.odd ∧ ¬ 1496 < p.data.length ∧ (Pure.encode p).2 = p.bytes ∧ p.bytes.length = p.data.length + 4 := by
  by_cases ho : p.odd
  · rw [Pure.encode_odd ho] at h; cases h
  · by_cases hl : 1496 < p.data.length
    · rw [Pure.encode_long ho hl] at h; cases h
    · exact ⟨ho, hl, by rw [Pure.encode_ok ho hl], by simp [Pure.Pkt.bytes]⟩
set_option maxRecDepth 100000 in
set_option maxHeartbeats 4000000 in
theorem packetBack_walk' (v x z : Value) (p : Pure.Pkt) (ps : List (Value × Pure.Opt)) (bs : List UInt8) (w : World) (hgo : Handle w)
    (hv : Row w (fun b => b < w.heap.size) 1 v p.data.length (u8s p.data)) (hx : ORow w (fun b => b < w.heap.size) x ps) (hr : Row w (fun b => b < w.heap.size) 1 z bs.length (u8s bs)) :
    Calls Tryd.prog 6 #[pktV p v, x, z] w fun e w' => e = .returned (.bool true) ∧ Below w.heap.size w w' := by
  obtain ⟨A, cA, rfl, _⟩ := hv.form
  obtain ⟨B, cB, rfl, _⟩ := hx.form
  obtain ⟨C, cC, rfl, _⟩ := hr.form
  have hml := hv.2.1
  have hml1 := hx.out.2.1
  have hml2 := hr.2.1
  unfold maxLen at hml hml1 hml2
  have HGo := Lib.hid hgo
  have HV := Lib.hid hv
  have HX := Lib.hid hx
  have HR := Lib.hid hr
  clear hv hx hr hgo
  obtain ⟨g, hg⟩ : ∃ g, g = w.heap.size := ⟨_, rfl⟩
  go_enter Tryd.func6, Tryd.ntmps6
  go_upto_region 1 with fail
  rw [← hg]
  generalize hw0 : w.alloc _ = w0
  have hB0 : Blk w0 g 28 #[.int .i64 p.code, .int .i64 p.id, .slice A p.data.length cA] := by rw [← hw0, hg]; exact Blk.new w _ _
  have hk0 : Keeps nobody w w0 := by rw [← hw0]; exact (Keeps.refl _ w).alloc _
  have HB0 := Lib.hid hB0
  have HK0 := Lib.hid hk0
  have HGw := Lib.hid hg
  clear hw0 hg hB0 hk0
  go_wp2_with fail
  refine (awake_any encodeOk decodeOk w0 (HGo.out.below HK0.out.to_below)).mono ?_
  rintro e w1 ⟨rfl, hb1⟩
  have hk1 := HK0.out.trans (Keeps.new hb1)
  have hB1 := HB0.out.keeps (Keeps.new hb1) (fun x => x)
  have V1 := Lib.hid (HV.out.keeps hk1 (fun _ _ h => h))
  have X1 := Lib.hid (HX.out.keeps hk1 (fun _ _ h => h))
  have R1 := Lib.hid (HR.out.keeps hk1 (fun _ _ h => h))
  have H1 := Lib.hid hk1.to_below
  have HB1 := Lib.hid hB1
  have a0 : w1.cell? ⟨g, 0, none⟩ = some (.int .i64 p.code) := by rw [hB1.cell]; rfl
  have a1 : w1.cell? ⟨g, 1, none⟩ = some (.int .i64 p.id) := by rw [hB1.cell]; rfl
  have a2 : w1.cell? ⟨g, 2, none⟩ = some (.slice A p.data.length cA) := by rw [hB1.cell]; rfl
  clear hb1 hk1 hB1 HB0 HK0 HV HX HR
  have S1 := Lib.hid (small_any _ _ ps w1 X1.out)
  obtain ⟨s1, hs1⟩ : ∃ s, s = decide (smallOpts (optsOf ps)) := ⟨_, rfl⟩
  rw [← hs1] at S1
  have HS1 := Lib.hid hs1
  clear hs1
  by_cases hl1 : 2000 < p.data.length
  · have d0 : decide ((2000 : Int) < (p.data.length : Int)) = true := decide_eq_true (by omega)
    go_wp2
    go_ret
    exact ⟨rfl, H1.out⟩
  have d0 : decide ((2000 : Int) < (p.data.length : Int)) = false := decide_eq_false (by omega)
  go_wp2_with fail
  refine S1.out.mono ?_
  rintro e w1' ⟨rfl, rfl⟩
  clear S1
  cases s1
  · go_wp2
    go_ret
    exact ⟨rfl, H1.out⟩
  by_cases hl2 : 500 < bs.length
  · have d1 : decide ((500 : Int) < (bs.length : Int)) = true := decide_eq_true (by omega)
    go_wp2
    go_ret
    exact ⟨rfl, H1.out⟩
  have d1 : decide ((500 : Int) < (bs.length : Int)) = false := decide_eq_false (by omega)
  have hpl : ps.length ≤ 60 := by
    have := (of_decide_eq_true HS1.out.symm).1
    simpa using this
  obtain ⟨W, hW⟩ : ∃ W, W = w1' := ⟨_, rfl⟩
  rw [← hW] at H1 V1 X1 R1 HB1 a0 a1 a2 ⊢
  clear hW
  have P2 := Lib.hid (encodeOk _ (.slice A p.data.length cA) p W (fun b hb => Nat.lt_of_lt_of_le hb H1.out.size) V1.out)
  obtain ⟨E, hE⟩ : ∃ E, E = (Pure.encode p).1 := ⟨_, rfl⟩
  obtain ⟨O, hO⟩ : ∃ O, O = (Pure.encode p).2 := ⟨_, rfl⟩
  have HEO := Lib.hid (And.intro hE hO)
  rw [← hE, ← hO] at P2
  clear hE hO
  go_wp2_with fail
  refine P2.out.mono ?_
  rintro e w2 ⟨u2, rfl, hu2, hb2⟩
  obtain ⟨A2, c2, rfl⟩ := own_form hu2
  have hk2 := Keeps.new hb2
  have hB2 := HB1.out.keeps hk2 (fun x => x)
  have U2 := Lib.hid hu2
  have V2 := Lib.hid (V1.out.keeps hk2 (fun _ _ h => h))
  have X2 := Lib.hid (X1.out.keeps hk2 (fun _ _ h => h))
  have R2 := Lib.hid (R1.out.keeps hk2 (fun _ _ h => h))
  have H2 := Lib.hid (H1.out.trans (hb2.mono H1.out.size))
  have HB2 := Lib.hid hB2
  clear hu2 hb2 hk2 hB2 P2 a0 a1 a2 V1 X1 R1 H1 HB1
  go_upto_if 39 with fail
  go_cut [] (fun wx => Below w.heap.size w wx ∧ ORow wx (fun b => b < w.heap.size) (.slice B ps.length cB) ps ∧ Row wx (fun b => b < w.heap.size) 1 (.slice C bs.length cC) bs.length (u8s bs))
  case first =>
    by_cases hz : E = 0
    · subst hz
      obtain ⟨ho, hl, hO, hlen⟩ := Pure.encode_zero HEO.out.1.symm
      rw [← HEO.out.2] at hO
      have hdec := Pure.decode_bytes ho hl bs
      rw [← hO] at hdec hlen
      have hol : O.length ≤ 1500 := by omega
      have HD := Lib.hid hdec
      clear ho hl hO hdec hlen
      have P3 := Lib.hid (copyL (w0 := w) H2.out (Row.of_own U2.out) (fun b hb => ownsRow_lt U2.out b hb) (by omega))
      go_wp2_with fail
      refine P3.out.mono ?_
      rintro e w3 ⟨A3, c3, rfl, hu3, hk3, hb3⟩
      have U3 := Lib.hid hu3
      have H3 := Lib.hid hb3
      have H32 := Lib.hid (H2.out.size)
      have V3 := Lib.hid (V2.out.keeps hk3 (fun _ _ h => h))
      have X3 := Lib.hid (X2.out.keeps hk3 (fun _ _ h => h))
      have R3 := Lib.hid (R2.out.keeps hk3 (fun _ _ h => h))
      have HB3 := Lib.hid (HB2.out.keeps hk3 (fun h => h))
      have HK3 := Lib.hid hk3
      have HgL := Lib.hid HB2.out.lt
      clear hu3 hb3 hk3 P3 U2 V2 X2 R2 H2 HB2
      go_wp2_with (at_builtin; refine stopHere ?_)
      unfold Hid
      refine wp_append_u8 rfl (.tmp 42) (.tmp 43) rfl w2.heap.size (.slice A3 O.length c3) O.length O rfl rfl U3.out _ (.slice C bs.length cC) bs rfl R3.out (by omega) HK3.out.size ?_
      intro v4 w4 hown4 hg4 hat4
      have hge := fun b (hb : (Value.slice A3 O.length c3).ownBlock = some b) => ownsRow_ge U3.out b hb
      have hk4 : Keeps (fun b => (Value.slice A3 O.length c3).ownBlock = some b) w3 w4 := (Keeps.refl _ w3).grown hg4 (fun k hk _ => hk)
      have H4 := Lib.hid (H3.out.grown hg4 H3.out.size (fun k hk => Nat.le_trans H32.out (hge k hk)))
      have hold : ∀ b, b < w.heap.size → ¬ (Value.slice A3 O.length c3).ownBlock = some b := fun b hb h => by have := hge b h; have := H32.out; omega
      have V4 := Lib.hid (V3.out.keeps hk4 (fun b hb => hold b hb))
      have X4 := Lib.hid (X3.out.keeps hk4 (fun b hb => hold b hb))
      have R4 := Lib.hid (R3.out.keeps hk4 (fun b hb => hold b hb))
      have HB4 := Lib.hid (HB3.out.keeps hk4 (fun h => by have := hge g h; have := HgL.out; omega))
      have P5 := decodeOk _ v4 (O ++ bs) w4 (HGo.out.below H4.out) (fun b hb => ownsRow_lt hown4 b hb) (by rw [List.length_append]; exact Row.of_own (by rw [List.length_append] at hown4; exact hown4))
      rw [HD.out] at P5
      have P5 := Lib.hid P5
      obtain ⟨A4, c4, rfl⟩ := own_form hown4
      clear hown4 hg4 hat4 hge hk4 hold U3 V3 X3 R3 H3 HB3 HK3
      try rw [List.length_append] at P5
      go_wp2_with fail
      refine P5.out.mono ?_
      rintro e w5 ⟨u5, rfl, hu5, hb5⟩
      obtain ⟨A5, c5, rfl, _⟩ := hu5.form
      have hk5 := Keeps.new hb5
      have U5 := Lib.hid hu5
      have H5 := Lib.hid (H4.out.trans (hb5.mono H4.out.size))
      have V5 := Lib.hid (V4.out.keeps hk5 (fun _ _ h => h))
      have X5 := Lib.hid (X4.out.keeps hk5 (fun _ _ h => h))
      have R5 := Lib.hid (R4.out.keeps hk5 (fun _ _ h => h))
      have HB5 := Lib.hid (HB4.out.keeps hk5 (fun h => h))
      clear hu5 hb5 hk5 V4 X4 R4 H4 HB4 P5
      go_upto_region 8 with fail
      obtain ⟨g6, hg6⟩ : ∃ g6, g6 = w5.heap.size := ⟨_, rfl⟩
      obtain ⟨w6, hw6⟩ : ∃ w6, w6 = w5.alloc (.cells #[.int .i64 p.code, .int .i64 p.id, .slice A5 p.data.length c5] 28) := ⟨_, rfl⟩
      rw [← hw6, ← hg6]
      have hB6 : Blk w6 g6 28 #[.int .i64 p.code, .int .i64 p.id, .slice A5 p.data.length c5] := by rw [hw6, hg6]; exact Blk.new w5 _ _
      have hk6 : Keeps nobody w5 w6 := by rw [hw6]; exact (Keeps.refl _ w5).alloc _
      have hBg := HB5.out.keeps hk6 (fun h => h)
      have a0 : w6.cell? ⟨g, 0, none⟩ = some (.int .i64 p.code) := by rw [hBg.cell]; rfl
      have a1 : w6.cell? ⟨g, 1, none⟩ = some (.int .i64 p.id) := by rw [hBg.cell]; rfl
      have a2 : w6.cell? ⟨g, 2, none⟩ = some (.slice A p.data.length cA) := by rw [hBg.cell]; rfl
      have b0 : w6.cell? ⟨g6, 0, none⟩ = some (.int .i64 p.code) := by rw [hB6.cell]; rfl
      have b1 : w6.cell? ⟨g6, 1, none⟩ = some (.int .i64 p.id) := by rw [hB6.cell]; rfl
      have b2 : w6.cell? ⟨g6, 2, none⟩ = some (.slice A5 p.data.length c5) := by rw [hB6.cell]; rfl
      have P7 := Lib.hid (samepkt_any _ _ (.slice A p.data.length cA) (.slice A5 p.data.length c5) p.code p.id p.data w6 (V5.out.keeps hk6 (fun _ _ h => h)) (U5.out.keeps hk6 (fun _ _ h => h)))
      have H6 := Lib.hid (Below.quiet H5.out hk6 H5.out.size)
      have X6 := Lib.hid (X5.out.keeps hk6 (fun _ _ h => h))
      have R6 := Lib.hid (R5.out.keeps hk6 (fun _ _ h => h))
      clear hw6 hB6 hk6 hg6 hBg H5 X5 R5 V5 U5 HB5
      go_wp2_with fail
      refine P7.out.mono ?_
      rintro e w7 ⟨rfl, hk7⟩
      have H7 := Lib.hid (Below.quiet H6.out hk7 H6.out.size)
      have X7 := Lib.hid (X6.out.keeps hk7 (fun _ _ h => h))
      have R7 := Lib.hid (R6.out.keeps hk7 (fun _ _ h => h))
      clear hk7 P7 H6 X6 R6 a0 a1 a2 b0 b1 b2
      go_wp2
      go_meet
      exact ⟨H7.out, X7.out, R7.out⟩
    · have dE : ((E : Int) == 0) = false := by rw [beq_eq_false_iff_ne]; omega
      go_wp2
      go_meet
      exact ⟨H2.out, X2.out, R2.out⟩
  case rest =>
    obtain ⟨hH, hX, hR⟩ := hcut
    clear U2 V2 X2 R2 H2 HB2 HEO
    obtain ⟨w2, hw2⟩ : ∃ w2, w2 = wc := ⟨_, rfl⟩
    rw [← hw2] at hH hX hR ⊢
    have H2 := Lib.hid hH
    have X2 := Lib.hid hX
    have R2 := Lib.hid hR
    clear hH hX hR hw2
    have P2 := Lib.hid (optionsOk _ _ ps w2 (fun b hb => Nat.lt_of_lt_of_le hb H2.out.size) X2.out)
    obtain ⟨E2, hE⟩ : ∃ E, E = (Pure.options (optsOf ps)).1 := ⟨_, rfl⟩
    obtain ⟨O2, hO⟩ : ∃ O, O = (Pure.options (optsOf ps)).2 := ⟨_, rfl⟩
    have HEO := Lib.hid (And.intro hE hO)
    rw [← hE, ← hO] at P2
    clear hE hO
    go_wp2_with fail
    refine P2.out.mono ?_
    rintro e w3 ⟨u3, rfl, hu3, hb3⟩
    obtain ⟨A3, c3, rfl⟩ := own_form hu3
    have hk3 := Keeps.new hb3
    have U3 := Lib.hid hu3
    have H3 := Lib.hid (H2.out.trans (hb3.mono H2.out.size))
    have X3 := Lib.hid (X2.out.keeps hk3 (fun _ _ h => h))
    have R3 := Lib.hid (R2.out.keeps hk3 (fun _ _ h => h))
    clear hu3 hb3 hk3 H2 X2 R2 P2
    go_upto_if 62 with fail
    go_cut [] (fun wx => Below w.heap.size w wx ∧ Row wx (fun b => b < w.heap.size) 1 (.slice C bs.length cC) bs.length (u8s bs))
    case first =>
      by_cases hz : E2 = 0
      · subst hz
        obtain ⟨q1, _, _⟩ := Pure.options_back (l := optsOf ps) HEO.out.1.symm
        rw [← HEO.out.2] at q1
        have P4 := splitOk _ (.slice A3 O2.length c3) O2 w3 (HGo.out.below H3.out) (fun b hb => ownsRow_lt U3.out b hb) (Row.of_own U3.out)
        rw [q1] at P4
        have P4 := Lib.hid P4
        clear q1
        go_wp2_with fail
        refine P4.out.mono ?_
        rintro e w4 ⟨u4, rs, rfl, hrs, hu4, hb4⟩
        obtain ⟨A4, c4, rfl, _⟩ := hu4.form
        have hk4 := Keeps.new hb4
        have H4 := Lib.hid (H3.out.trans (hb4.mono H3.out.size))
        have R4 := Lib.hid (R3.out.keeps hk4 (fun _ _ h => h))
        have P5 := docopts_same _ _ (.slice A4 rs.length c4) (.slice B ps.length cB) rs ps w4 hu4 (X3.out.keeps hk4 (fun _ _ h => h))
        rw [decide_eq_true hrs] at P5
        have P5 := Lib.hid P5
        clear hu4 hb4 hk4 hrs P4 H3 X3 R3 U3
        go_wp2_with fail
        refine P5.out.mono ?_
        rintro e w5 ⟨rfl, hk5⟩
        have H5 := Lib.hid (Below.quiet H4.out hk5 H4.out.size)
        have R5 := Lib.hid (R4.out.keeps hk5 (fun _ _ h => h))
        clear hk5 P5 H4 R4
        go_wp2
        go_meet
        exact ⟨H5.out, R5.out⟩
      · have dE : ((E2 : Int) == 0) = false := by rw [beq_eq_false_iff_ne]; omega
        go_wp2
        go_meet
        exact ⟨H3.out, R3.out⟩
    case rest =>
      obtain ⟨hH, hR⟩ := hcut
      clear U3 X3 R3 H3 HEO
      have H4 := Lib.hid hH
      have R4 := Lib.hid hR
      clear hH hR
      have P5 := splitOk _ (.slice C bs.length cC) bs wc (HGo.out.below H4.out) (fun b hb => Nat.lt_of_lt_of_le hb H4.out.size) R4.out
      obtain ⟨G, hG⟩ : ∃ G, G = (Pure.split bs).1 := ⟨_, rfl⟩
      obtain ⟨D, hD⟩ : ∃ D, D = (Pure.split bs).2 := ⟨_, rfl⟩
      have HSP := Lib.hid (show Pure.split bs = (G, D) by rw [hG, hD])
      rw [← hG, ← hD] at P5
      have P5 := Lib.hid P5
      clear hG hD
      go_wp2_with fail
      refine P5.out.mono ?_
      rintro e w5 ⟨u5, rs, rfl, hrs, hu5, hb5⟩
      obtain ⟨A5, c5, rfl, _⟩ := hu5.form
      have hk5 := Keeps.new hb5
      have H5 := Lib.hid (H4.out.trans (hb5.mono H4.out.size))
      have R5 := Lib.hid (R4.out.keeps hk5 (fun _ _ h => h))
      have U5 := Lib.hid hu5
      have HRS := Lib.hid hrs
      clear hu5 hb5 hk5 hrs P5 H4 R4
      by_cases hz : G = 0
      · subst hz
        have hop := Pure.options_split HSP.out
        rw [← HRS.out] at hop
        have P6 := optionsOk _ (.slice A5 rs.length c5) rs w5 (fun b hb => hb.2) (ORow.strong' U5.out)
        rw [hop] at P6
        have P6 := Lib.hid P6
        clear hop
        go_wp2_with fail
        refine P6.out.mono ?_
        rintro e w6 ⟨u6, rfl, hu6, hb6⟩
        obtain ⟨A6, c6, rfl⟩ := own_form hu6
        have hk6 := Keeps.new hb6
        have H6 := H5.out.trans (hb6.mono H5.out.size)
        have P7 := Lib.hid (sameY (w0 := w) H6 (Row.of_own hu6) (R5.out.keeps hk6 (fun _ _ h => h)) rfl rfl)
        clear hu6 hb6 hk6 P6 H5 R5 U5 H6
        go_wp2_with fail
        refine P7.out.mono ?_
        rintro e w7 ⟨rfl, _, hb7⟩
        have H7 := Lib.hid hb7
        clear hb7 P7
        go_wp2
        go_ret
        exact ⟨rfl, H7.out⟩
      · have dE : ((G : Int) == 0) = false := by rw [beq_eq_false_iff_ne]; omega
        go_wp2
        go_ret
        exact ⟨rfl, H5.out⟩
end Go.Proofs.YtaalbjbocbagcaaDoor
