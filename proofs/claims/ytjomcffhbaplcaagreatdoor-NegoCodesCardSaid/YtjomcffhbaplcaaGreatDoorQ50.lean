/- Chapter 13's statements: NegoCodes. -/
import Derived.Test.YtjomcffhbaplcaaGreatDoorQ49
import Derived.Test.YtjomcffhbaplcaaGreatDoorQ14
namespace Go.Proofs.YtjomcffhbaplcaaGreatDoor
open Go.RowKit
def fewOpen (k : Nat) : Pure.Neg := { Pure.opened Pure.fewRules [] [] [] 3 2 1 0 [] with id := k }
theorem fewOpen_input (k : Nat) (hk : k < 255) (p : Pure.Pkt) (hp : p.code < 1 ∨ 7 < p.code) (he : ((Pure.encode p).2).length ≤ 1496) : (fewOpen k).input p = (fewOpen (k + 1), Pure.sends [⟨7, ((k + 1 : Nat) : Int), (Pure.encode p).2⟩]) := by
  have h := Pure.hear_unknown (n := fewOpen k) (c := 3) (l := 0) (t := 3) (u := 2) rfl hp
  have e : (fewOpen k).next = k + 1 := by show (k + 1) % 256 = k + 1; omega
  rw [e, List.take_of_length_le he] at h
  exact h
theorem fewOpen_reject (k : Nat) (hk : k < 255) (b : UInt8) (d : List UInt8) : (fewOpen k).input ⟨7, 1, b :: d⟩ = if 1 ≤ b.toNat ∧ b.toNat ≤ 7 then ({ fewOpen (k + 1) with m := ⟨5, 2, 2, 3, 2⟩ }, ⟨[⟨5, ((k + 1 : Nat) : Int), []⟩], false, true, false, false⟩) else (fewOpen k, Pure.mute) := by
  have h := Pure.hear_coderej (n := fewOpen k) (c := 3) (l := 0) (t := 3) (u := 2) (i := 1) (b := b) (d := d) rfl
  have e : (fewOpen k).next = k + 1 := by show (k + 1) % 256 = k + 1; omega
  rw [e] at h
  exact h
set_option maxRecDepth 100000 in
set_option maxHeartbeats 8000000 in
theorem negoCodes_walk' (c : Nat) (fb : UInt8) (x : Value) (l : List UInt8) (hc : c < 256) (w : World) (env : Env13 w) (hx : Row w (fun b => b < w.heap.size) 1 x l.length (u8s l)) :
    Calls Tryz.prog 9 #[.int .u8 (c : Int), x, .int .u8 (fb.toNat : Nat)] w fun e w' => e = .returned (.bool true) ∧ Below w.heap.size w w' := by
  obtain ⟨A, cA, rfl, _⟩ := hx.form
  have HAW := Lib.hid (awake_any w)
  have HX := Lib.hid hx
  have HENV := Lib.hid env
  have hfl := fb.toNat_lt
  obtain ⟨n, hn⟩ : ∃ n, n = l.length := ⟨_, rfl⟩
  obtain ⟨f, hf⟩ : ∃ f, f = fb.toNat := ⟨_, rfl⟩
  have HF := Lib.hid hf
  have HNL := Lib.hid hn
  rw [← hf] at hfl ⊢
  rw [← hn] at HX ⊢
  clear hx env hf hn
  go_enter Tryz.func9, Tryz.ntmps9
  go_wp2_with fail
  refine HAW.out.mono ?_
  rintro e w1 ⟨rfl, hk1⟩
  have HK1 := Lib.hid hk1
  clear hk1 HAW
  by_cases hl : 300 < n
  · have d1 : decide ((300 : Int) < (n : Int)) = true := decide_eq_true (by omega)
    have d2 : decide (300 < n) = true := decide_eq_true hl
    go_wp2_with fail
    go_ret
    exact ⟨rfl, HK1.out.to_below⟩
  have d1 : decide ((300 : Int) < (n : Int)) = false := decide_eq_false (by omega)
  have d2 : decide (300 < n) = false := decide_eq_false hl
  have HRU2 := Lib.hid (rules_any w1)
  go_wp2_with fail
  refine HRU2.out.mono ?_
  rintro e w2a ⟨u2a, us2a, rfl, hrow2a, hus2a, hk2a⟩
  obtain ⟨A2a, c2a, rfl, _⟩ := hrow2a.form
  have HUS2 := Lib.hid hus2a
  have HK2a := Lib.hid (HK1.out.trans hk2a)
  have HA2 := Lib.hid (asRules_any _ _ us2a w2a hrow2a (fun b hb => hb.2) (few_rules hus2a).len)
  clear hrow2a hus2a hk2a HRU2
  go_wp2_with fail
  refine HA2.out.mono ?_
  rintro e w2b ⟨u2b, qs2, rfl, hq2, hr2⟩
  obtain ⟨A2b, c2b, rfl⟩ := own_form hr2.own
  obtain ⟨hrow2, hf2, hfw2⟩ := few_made hr2 hq2 HUS2.out
  have HK2b := Lib.hid (HK2a.out.trans hr2.kept)
  have hnew2 := new_none _ _ qs2 w2b hrow2 hfw2 3 2 (by decide)
  rw [hf2] at hnew2
  obtain ⟨ql2, hql2⟩ : ∃ q, q = qs2.length := ⟨_, rfl⟩
  rw [← hql2] at hnew2 ⊢
  have HNW2 := Lib.hid (show Calls Tryz.prog 13 #[.slice A2b ql2 c2b, .slice none 0 0, .int .i64 3, .int .i64 2] w2b _ from hnew2)
  clear hq2 hr2 hrow2 hf2 hfw2 hnew2 hql2 HA2 HUS2
  go_wp2_with fail
  refine HNW2.out.mono ?_
  rintro e w2 ⟨g2, f2, R2, rfl, hn2, x12, x22, x32, hk2⟩
  have HN2 := Lib.hid (And.intro hn2 (And.intro x12 (And.intro x22 x32)))
  have HKN2 := Lib.hid hk2
  have HK2 := Lib.hid (HK2b.out.trans hk2)
  clear hn2 x12 x22 x32 hk2 HNW2
  have HRU3 := Lib.hid (rules_any w2)
  go_wp2_with fail
  refine HRU3.out.mono ?_
  rintro e w3a ⟨u3a, us3a, rfl, hrow3a, hus3a, hk3a⟩
  obtain ⟨A3a, c3a, rfl, _⟩ := hrow3a.form
  have HUS3 := Lib.hid hus3a
  have HK3a := Lib.hid (HK2.out.trans hk3a)
  have HMIDA := Lib.hid hk3a
  have HA3 := Lib.hid (asRules_any _ _ us3a w3a hrow3a (fun b hb => hb.2) (few_rules hus3a).len)
  clear hrow3a hus3a hk3a HRU3
  go_wp2_with fail
  refine HA3.out.mono ?_
  rintro e w3b ⟨u3b, qs3, rfl, hq3, hr3⟩
  obtain ⟨A3b, c3b, rfl⟩ := own_form hr3.own
  obtain ⟨hrow3, hf3, hfw3⟩ := few_made hr3 hq3 HUS3.out
  have HK3b := Lib.hid (HK3a.out.trans hr3.kept)
  have HMID := Lib.hid (HMIDA.out.trans hr3.kept)
  have hnew3 := new_none _ _ qs3 w3b hrow3 hfw3 3 2 (by decide)
  rw [hf3] at hnew3
  obtain ⟨ql3, hql3⟩ : ∃ q, q = qs3.length := ⟨_, rfl⟩
  rw [← hql3] at hnew3 ⊢
  have HNW3 := Lib.hid (show Calls Tryz.prog 13 #[.slice A3b ql3 c3b, .slice none 0 0, .int .i64 3, .int .i64 2] w3b _ from hnew3)
  clear hq3 hr3 hrow3 hf3 hfw3 hnew3 hql3 HA3 HUS3
  go_wp2_with fail
  refine HNW3.out.mono ?_
  rintro e w3 ⟨g3, f3, R3, rfl, hn3, x13, x23, x33, hk3⟩
  have HN3 := Lib.hid (And.intro hn3 (And.intro x13 (And.intro x23 x33)))
  have HKN3 := Lib.hid hk3
  have HK3 := Lib.hid (HK3b.out.trans hk3)
  clear hn3 x13 x23 x33 hk3 HNW3
  have hTN := two_new HENV.out HK2b.out.to_below HKN2.out HN2.out.1 HN2.out.2.1 HN2.out.2.2.1 HN2.out.2.2.2 (show Keeps nobody w2 w3b from HMID.out) HKN3.out HN3.out.1 HN3.out.2.1 HN3.out.2.2.1 HN3.out.2.2.2 (Keeps.refl _ w3)
  have hT0 := talk_any hTN (most := 40) (by omega) (newNeg_tame _ _ 3 2 (by decide)) (newNeg_tame _ _ 3 2 (by decide)) (Pure.newMach_good (by decide) (by decide)) (Pure.newMach_good (by decide) (by decide))
  rw [Pure.few_opened 3 2 40 (by decide)] at hT0
  obtain ⟨gx, hgx⟩ : ∃ q, q = g2 := ⟨_, rfl⟩
  obtain ⟨gy, hgy⟩ : ∃ q, q = g3 := ⟨_, rfl⟩
  obtain ⟨mx, hmx⟩ : ∃ q, q = f2.gm := ⟨_, rfl⟩
  obtain ⟨my, hmy⟩ : ∃ q, q = f3.gm := ⟨_, rfl⟩
  rw [← hgx, ← hgy, ← hmx, ← hmy] at hT0
  have HTK := Lib.hid (show Calls Tryz.prog 25 #[.pointer (some ⟨gx, 0, none⟩), .pointer (some ⟨gy, 0, none⟩), .int .i64 40] w3 fun e w' => e = .returned (.tuple #[]) ∧ ∃ g mb V0 V1 l0 l1, NPair w w' g mb 0 V0 V1 l0 l1 gx mx gy my (fewOpen 1) (fewOpen 1) from hT0)
  rw [← hgx, ← hgy]
  clear hT0 hTN HN2 HN3 HKN2 HKN3 HK2 HK3 HK2a HK2b HK3a HK3b hgx hgy hmx hmy d1 d2 HMIDA
  go_wp2_with fail
  refine HTK.out.mono ?_
  rintro e w7 ⟨rfl, g, mb, V0, V1, l0, l1, hP⟩
  have HP := Lib.hid hP
  have HS1 := Lib.hid (show Calls Tryz.prog 16 #[.pointer (some ⟨gx, 0, none⟩)] w7 fun e w' => e = .returned (.int .i64 9) ∧ w7 = w' from hP.state)
  clear hP HTK
  go_wp2_with fail
  refine HS1.out.mono ?_
  rintro e w' ⟨rfl, rfl⟩
  clear HS1
  by_cases hcc : (c : Int) < 1 ∨ 7 < (c : Int)
  · have HCC := Lib.hid hcc
    by_cases hc0 : c = 0
    · have ec0 : ((c : Int) == 0) = true := by rw [beq_iff_eq]; omega
      clear hcc hc0
      have hen : Pure.encode ⟨(c : Int), 9, l⟩ = (0, Pure.Pkt.bytes ⟨(c : Int), 9, l⟩) := Pure.encode_ok (by unfold Pure.Pkt.odd; dsimp only; omega) (by have := HNL.out; dsimp only; omega)
      obtain ⟨E, hE⟩ : ∃ E, E = (Pure.encode ⟨(c : Int), 9, l⟩).2 := ⟨_, rfl⟩
      have hEl : E.length ≤ 1496 := by rw [hE, hen]; simp [Pure.Pkt.bytes]; have := HNL.out; omega
      have hinp : (fewOpen 1).input ⟨(c : Int), 9, l⟩ = (fewOpen 2, Pure.sends [⟨7, 2, E⟩]) := by rw [fewOpen_input 1 (by decide) _ HCC.out (by rw [← hE]; exact hEl), ← hE]; rfl
      obtain ⟨gp, hgp⟩ : ∃ q, q = w7.heap.size := ⟨_, rfl⟩
      go_upto_region 14 with fail
      rw [← hgp]
      generalize hw8 : w7.alloc (.cells #[.int .i64 (c : Int), .int .i64 9, .slice A n cA] 40) = w8
      have hk8 : Keeps nobody w7 w8 := by rw [← hw8]; exact (Keeps.refl _ w7).alloc _
      have hb8 : Blk w8 gp 40 #[.int .i64 (c : Int), .int .i64 9, .slice A n cA] := by rw [← hw8, hgp]; exact Blk.new _ _ _
      have hP8 := HP.out.quiet hk8
      have hnw := HP.out.newer
      have HGN := Lib.hid (show gp ≠ gx ∧ gp ≠ mx by omega)
      have p0 : w8.cell? ⟨gp, 0, none⟩ = some (.int .i64 (c : Int)) := by rw [hb8.cell]; rfl
      have p1 : w8.cell? ⟨gp, 1, none⟩ = some (.int .i64 9) := by rw [hb8.cell]; rfl
      have p2 : w8.cell? ⟨gp, 2, none⟩ = some (.slice A n cA) := by rw [hb8.cell]; rfl
      have HPB := Lib.hid hb8
      have HIN := Lib.hid (show Calls Tryz.prog 15 #[.pointer (some ⟨gx, 0, none⟩), .agg #[.int .i64 (c : Int), .int .i64 9, .slice A n cA]] w8 fun r w' => ∃ sv, r = .returned (.agg #[sv, .bool false, .bool false, .bool false, .bool false]) ∧ NPend w w' g mb 0 V0 V1 l0 l1 gx mx gy my (fewOpen 2) (fewOpen 1) sv [⟨7, 2, E⟩] ∧ Keeps (fun b => b = gx ∨ b = mx) w8 w' from
        hP8.hearsK (.slice A n cA) ⟨(c : Int), 9, l⟩ (hP8.hand_old (F := fun b => b < w.heap.size) (by have h := HX.out.keeps (Keeps.new hP8.below) (fun _ _ h => h); rw [HNL.out] at h ⊢; exact h) (fun b hb => hb)) (by decide) (by decide) (by decide) hinp)
      have HEN := Lib.hid (show (Pure.encode ⟨(c : Int), 9, l⟩).1 = 0 by rw [hen])
      have HEE := Lib.hid hE
      clear hen hE hEl hinp hgp hw8 hk8 hb8 hP8 hnw
      go_wp2_with fail
      refine HIN.out.mono ?_
      rintro e w9 ⟨sv, rfl, hpend, hk9⟩
      obtain ⟨AS, cS, hsv⟩ := hpend.form
      have hsv : sv = .slice AS 1 cS := hsv
      subst hsv
      obtain ⟨ps, hps1, hps2⟩ := hpend.rows
      obtain ⟨vs, rfl⟩ := one_pkt hps1
      obtain ⟨qs, rs, A's, c's, rfl, rfl, ct0, _, ct2, hdata⟩ := pkt_read hps2
      dsimp only at ct0 ct2 hdata
      have p0 := cell_two hk9 HGN.out.1 HGN.out.2 p0
      have p1 := cell_two hk9 HGN.out.1 HGN.out.2 p1
      have p2 := cell_two hk9 HGN.out.1 HGN.out.2 p2
      obtain ⟨gq, hgq⟩ : ∃ q, q = w9.heap.size := ⟨_, rfl⟩
      go_upto_region 15 with fail
      rw [← hgq]
      generalize hw10 : w9.alloc (.cells #[.slice (some ⟨qs, rs, none⟩) 1 cS, .bool false, .bool false, .bool false, .bool false] 37) = w10
      have hk10 : Keeps nobody w9 w10 := by rw [← hw10]; exact (Keeps.refl _ w9).alloc _
      have o0 : w10.cell? ⟨gq, 0, none⟩ = some (.slice (some ⟨qs, rs, none⟩) 1 cS) := by rw [← hw10, hgq, (Blk.new w9 _ _).cell]; rfl
      have p0 := cell_quiet p0 hk10
      have p1 := cell_quiet p1 hk10
      have p2 := cell_quiet p2 hk10
      have ct0 := cell_quiet ct0 hk10
      have ct2 := cell_quiet ct2 hk10
      have HP10 := Lib.hid (hpend.pair.quiet hk10)
      have HDATA := Lib.hid (hdata.keeps hk10 (fun _ _ h => h))
      have HEC := Lib.hid (show Calls Tryz.prog 29 #[.agg #[.int .i64 (c : Int), .int .i64 9, .slice A n cA]] w10 fun e w' => ∃ u, e = .returned (.tuple #[u, .int .i64 0]) ∧ w'.ownsRow w10.heap.size 5 1 u E.length (u8s E) ∧ Below w10.heap.size w10 w' by
        have hr10 : Row w10 (fun b => b < w.heap.size) 1 (.slice A n cA) l.length (u8s l) := by have h := HX.out.keeps (Keeps.new HP10.out.below) (fun _ _ h => h); rw [HNL.out] at h ⊢; exact h
        have h := docencode_any _ _ ⟨(c : Int), 9, l⟩ w10 hr10
        rw [HEN.out, ← HEE.out] at h
        exact h)
      clear hk9 hk10 hgq hw10 hps1 hps2 hpend hdata HIN
      go_wp2_with fail
      refine HEC.out.mono ?_
      rintro e w11 ⟨u, rfl, hown, hbel⟩
      obtain ⟨AU, cU, rfl⟩ := own_form hown
      have hk11 := Keeps.new hbel
      have o0 := cell_quiet o0 hk11
      have ct0 := cell_quiet ct0 hk11
      have ct2 := cell_quiet ct2 hk11
      have hsame := same_any _ _ _ _ E E w11 (HDATA.out.keeps hk11 (fun _ _ h => h)) (Row.of_own hown)
      rw [decide_eq_true (rfl : E = E)] at hsame
      obtain ⟨El, hEl⟩ : ∃ q, q = E.length := ⟨_, rfl⟩
      rw [← hEl] at hsame ct2 ⊢
      have HSM := Lib.hid hsame
      have HP11 := Lib.hid (HP10.out.quiet hk11)
      clear hown hbel hk11 hsame hEl HEC HDATA HP10 p0 p1 p2
      go_wp2_with fail
      refine HSM.out.mono ?_
      rintro e w12 ⟨rfl, hk12⟩
      have HP12 := Lib.hid (HP11.out.quiet hk12)
      have HS12 := Lib.hid (show Calls Tryz.prog 16 #[.pointer (some ⟨gx, 0, none⟩)] w12 fun e w' => e = .returned (.int .i64 9) ∧ w12 = w' from HP12.out.state)
      clear hk12 HSM HP11 o0 ct0 ct2
      go_wp2_with fail
      refine HS12.out.mono ?_
      rintro e w' ⟨rfl, rfl⟩
      clear HS12
      by_cases hf7 : 1 ≤ f ∧ f ≤ 7
      · have h17 : 1 ≤ f := (And.left hf7)
        have h77 : f ≤ 7 := (And.right hf7)
        have kb : Keeps nobody w12 (w12.alloc (.cells #[.int .u8 (f : Int), .int .u8 1, .int .u8 0, .int .u8 4] 5)) := (Keeps.refl _ w12).alloc _
        have hbb : Blk (w12.alloc (.cells #[.int .u8 (f : Int), .int .u8 1, .int .u8 0, .int .u8 4] 5)) w12.heap.size 5 (u8s [fb, 1, 0, 4]).toArray := by
          rw [HF.out]; exact Blk.new _ _ _
        have hrb := Row.block (F := fun b => w12.heap.size ≤ b ∧ b < (w12.alloc (.cells #[.int .u8 (f : Int), .int .u8 1, .int .u8 0, .int .u8 4] 5)).heap.size) (n := 4) (c := 4) (size := 1) hbb ⟨Nat.le_refl _, by simp⟩ rfl (by unfold maxLen; omega) (Nat.le_refl _)
        have hin : (fewOpen 2).input ⟨7, 1, [fb, 1, 0, 4]⟩ = ({ fewOpen 3 with m := ⟨5, 2, 2, 3, 2⟩ }, ⟨[⟨5, 3, []⟩], false, true, false, false⟩) := by
          rw [fewOpen_reject 2 (by decide)]
          exact if_pos (by rw [← HF.out]; exact hf7)
        have HINT := Lib.hid (show Calls Tryz.prog 15 #[.pointer (some ⟨gx, 0, none⟩), .agg #[.int .i64 7, .int .i64 1, .slice (some ⟨w12.heap.size, 0, none⟩) 4 4]] (w12.alloc (.cells #[.int .u8 (f : Int), .int .u8 1, .int .u8 0, .int .u8 4] 5)) fun r w' => ∃ sv, r = .returned (.agg #[sv, .bool false, .bool true, .bool false, .bool false]) ∧ NPend w w' g mb 0 V0 V1 l0 l1 gx mx gy my { fewOpen 3 with m := ⟨5, 2, 2, 3, 2⟩ } (fewOpen 1) sv [⟨5, 3, []⟩] from (HP12.out.quiet kb).hears (.slice (some ⟨w12.heap.size, 0, none⟩) 4 4) ⟨7, 1, [fb, 1, 0, 4]⟩ (NPair.hand_new HP12.out hrb (fun b hb => hb)) (by decide) (by decide) (by decide) hin)
        clear kb hbb hrb hin
        go_wp2_with fail
        refine HINT.out.mono ?_
        rintro e wt ⟨sv, rfl, hpend⟩
        obtain ⟨AT, cT, hsv⟩ := hpend.form
        obtain ⟨pt, hpt1, hpt2⟩ := hpend.rows
        have HPT := Lib.hid hpend.pair
        obtain ⟨vt, rfl⟩ := one_pkt hpt1
        have hsv : sv = .slice AT 1 cT := hsv
        subst hsv
        obtain ⟨qt, rt, A't, c't, rfl, rfl, ct0, _, _, _⟩ := pkt_read hpt2
        dsimp only at ct0
        have hst := hpend.pair.state
        have HST := Lib.hid (fun (W : World) (k : Keeps nobody wt W) => (show Calls Tryz.prog 16 #[.pointer (some ⟨gx, 0, none⟩)] W fun e w' => e = .returned (.int .i64 5) ∧ W = w' from (HPT.out.quiet k).state))
        have hkt : Keeps nobody wt (wt.alloc (.cells #[.slice (some ⟨qt, rt, none⟩) 1 cT, .bool false, .bool true, .bool false, .bool false] 37)) := (Keeps.refl _ wt).alloc _
        have ct0 := cell_quiet ct0 hkt
        have HSTA := Lib.hid (HST.out _ hkt)
        have HBT := Lib.hid (Below.quiet HPT.out.below hkt HPT.out.below.size)
        clear hpt1 hpt2 hpend hst HST hkt HINT
        have e1f : decide ((1 : Int) ≤ (f : Int)) = true := decide_eq_true (by omega)
        have e1n : decide (1 ≤ f) = true := decide_eq_true h17
        have e7f : decide ((f : Int) ≤ 7) = true := decide_eq_true (by omega)
        have e7n : decide (f ≤ 7) = true := decide_eq_true h77
        go_wp2_with fail
        refine HSTA.out.mono ?_
        rintro e w' ⟨rfl, rfl⟩
        go_wp2_with fail
        go_ret
        exact ⟨rfl, HBT.out⟩
      · have kb : Keeps nobody w12 (w12.alloc (.cells #[.int .u8 (f : Int), .int .u8 1, .int .u8 0, .int .u8 4] 5)) := (Keeps.refl _ w12).alloc _
        have hbb : Blk (w12.alloc (.cells #[.int .u8 (f : Int), .int .u8 1, .int .u8 0, .int .u8 4] 5)) w12.heap.size 5 (u8s [fb, 1, 0, 4]).toArray := by
          rw [HF.out]; exact Blk.new _ _ _
        have hrb := Row.block (F := fun b => w12.heap.size ≤ b ∧ b < (w12.alloc (.cells #[.int .u8 (f : Int), .int .u8 1, .int .u8 0, .int .u8 4] 5)).heap.size) (n := 4) (c := 4) (size := 1) hbb ⟨Nat.le_refl _, by simp⟩ rfl (by unfold maxLen; omega) (Nat.le_refl _)
        have hin : (fewOpen 2).input ⟨7, 1, [fb, 1, 0, 4]⟩ = ((fewOpen 2), ⟨[], false, false, false, false⟩) := by
          rw [fewOpen_reject 2 (by decide)]
          exact if_neg (by rw [← HF.out]; exact hf7)
        have HINT := Lib.hid (show Calls Tryz.prog 15 #[.pointer (some ⟨gx, 0, none⟩), .agg #[.int .i64 7, .int .i64 1, .slice (some ⟨w12.heap.size, 0, none⟩) 4 4]] (w12.alloc (.cells #[.int .u8 (f : Int), .int .u8 1, .int .u8 0, .int .u8 4] 5)) fun r w' => ∃ sv, r = .returned (.agg #[sv, .bool false, .bool false, .bool false, .bool false]) ∧ NPend w w' g mb 0 V0 V1 l0 l1 gx mx gy my (fewOpen 2) (fewOpen 1) sv [] from (HP12.out.quiet kb).hears (.slice (some ⟨w12.heap.size, 0, none⟩) 4 4) ⟨7, 1, [fb, 1, 0, 4]⟩ (NPair.hand_new HP12.out hrb (fun b hb => hb)) (by decide) (by decide) (by decide) hin)
        clear kb hbb hrb hin
        go_wp2_with fail
        refine HINT.out.mono ?_
        rintro e wt ⟨sv, rfl, hpend⟩
        obtain ⟨AT, cT, hsv⟩ := hpend.form
        obtain ⟨pt, hpt1, hpt2⟩ := hpend.rows
        have HPT := Lib.hid hpend.pair
        have hsv : sv = .slice AT 0 cT := hsv
        subst hsv
        have HST := Lib.hid (fun (W : World) (k : Keeps nobody wt W) => (show Calls Tryz.prog 16 #[.pointer (some ⟨gx, 0, none⟩)] W fun e w' => e = .returned (.int .i64 9) ∧ W = w' from (HPT.out.quiet k).state))
        have hkt : Keeps nobody wt (wt.alloc (.cells #[.slice AT 0 cT, .bool false, .bool false, .bool false, .bool false] 37)) := (Keeps.refl _ wt).alloc _
        have HSTA := Lib.hid (HST.out _ hkt)
        have HBT := Lib.hid (Below.quiet HPT.out.below hkt HPT.out.below.size)
        clear hpt1 hpt2 hpend HST hkt HINT
        by_cases h17 : 1 ≤ f
        · have h77 : ¬ f ≤ 7 := fun h => hf7 ⟨h17, h⟩
          have e1f : decide ((1 : Int) ≤ (f : Int)) = true := decide_eq_true (by omega)
          have e1n : decide (1 ≤ f) = true := decide_eq_true h17
          have e7f : decide ((f : Int) ≤ 7) = false := decide_eq_false (by omega)
          have e7n : decide (f ≤ 7) = false := decide_eq_false h77
          go_wp2_with fail
          refine HSTA.out.mono ?_
          rintro e w' ⟨rfl, rfl⟩
          go_wp2_with fail
          go_ret
          exact ⟨rfl, HBT.out⟩
        · have e1f : decide ((1 : Int) ≤ (f : Int)) = false := decide_eq_false (by omega)
          have e1n : decide (1 ≤ f) = false := decide_eq_false h17
          go_wp2_with fail
          refine HSTA.out.mono ?_
          rintro e w' ⟨rfl, rfl⟩
          go_wp2_with fail
          go_ret
          exact ⟨rfl, HBT.out⟩
    · have ec0 : ((c : Int) == 0) = false := by rw [beq_eq_false_iff_ne]; omega
      have ec7 : decide ((7 : Int) < (c : Int)) = true := decide_eq_true (by omega)
      have ec7n : decide (7 < c) = true := decide_eq_true (by omega)
      clear hcc
      have hen : Pure.encode ⟨(c : Int), 9, l⟩ = (0, Pure.Pkt.bytes ⟨(c : Int), 9, l⟩) := Pure.encode_ok (by unfold Pure.Pkt.odd; dsimp only; omega) (by have := HNL.out; dsimp only; omega)
      obtain ⟨E, hE⟩ : ∃ E, E = (Pure.encode ⟨(c : Int), 9, l⟩).2 := ⟨_, rfl⟩
      have hEl : E.length ≤ 1496 := by rw [hE, hen]; simp [Pure.Pkt.bytes]; have := HNL.out; omega
      have hinp : (fewOpen 1).input ⟨(c : Int), 9, l⟩ = (fewOpen 2, Pure.sends [⟨7, 2, E⟩]) := by rw [fewOpen_input 1 (by decide) _ HCC.out (by rw [← hE]; exact hEl), ← hE]; rfl
      obtain ⟨gp, hgp⟩ : ∃ q, q = w7.heap.size := ⟨_, rfl⟩
      go_upto_region 14 with fail
      rw [← hgp]
      generalize hw8 : w7.alloc (.cells #[.int .i64 (c : Int), .int .i64 9, .slice A n cA] 40) = w8
      have hk8 : Keeps nobody w7 w8 := by rw [← hw8]; exact (Keeps.refl _ w7).alloc _
      have hb8 : Blk w8 gp 40 #[.int .i64 (c : Int), .int .i64 9, .slice A n cA] := by rw [← hw8, hgp]; exact Blk.new _ _ _
      have hP8 := HP.out.quiet hk8
      have hnw := HP.out.newer
      have HGN := Lib.hid (show gp ≠ gx ∧ gp ≠ mx by omega)
      have p0 : w8.cell? ⟨gp, 0, none⟩ = some (.int .i64 (c : Int)) := by rw [hb8.cell]; rfl
      have p1 : w8.cell? ⟨gp, 1, none⟩ = some (.int .i64 9) := by rw [hb8.cell]; rfl
      have p2 : w8.cell? ⟨gp, 2, none⟩ = some (.slice A n cA) := by rw [hb8.cell]; rfl
      have HPB := Lib.hid hb8
      have HIN := Lib.hid (show Calls Tryz.prog 15 #[.pointer (some ⟨gx, 0, none⟩), .agg #[.int .i64 (c : Int), .int .i64 9, .slice A n cA]] w8 fun r w' => ∃ sv, r = .returned (.agg #[sv, .bool false, .bool false, .bool false, .bool false]) ∧ NPend w w' g mb 0 V0 V1 l0 l1 gx mx gy my (fewOpen 2) (fewOpen 1) sv [⟨7, 2, E⟩] ∧ Keeps (fun b => b = gx ∨ b = mx) w8 w' from
        hP8.hearsK (.slice A n cA) ⟨(c : Int), 9, l⟩ (hP8.hand_old (F := fun b => b < w.heap.size) (by have h := HX.out.keeps (Keeps.new hP8.below) (fun _ _ h => h); rw [HNL.out] at h ⊢; exact h) (fun b hb => hb)) (by decide) (by decide) (by decide) hinp)
      have HEN := Lib.hid (show (Pure.encode ⟨(c : Int), 9, l⟩).1 = 0 by rw [hen])
      have HEE := Lib.hid hE
      clear hen hE hEl hinp hgp hw8 hk8 hb8 hP8 hnw
      go_wp2_with fail
      refine HIN.out.mono ?_
      rintro e w9 ⟨sv, rfl, hpend, hk9⟩
      obtain ⟨AS, cS, hsv⟩ := hpend.form
      have hsv : sv = .slice AS 1 cS := hsv
      subst hsv
      obtain ⟨ps, hps1, hps2⟩ := hpend.rows
      obtain ⟨vs, rfl⟩ := one_pkt hps1
      obtain ⟨qs, rs, A's, c's, rfl, rfl, ct0, _, ct2, hdata⟩ := pkt_read hps2
      dsimp only at ct0 ct2 hdata
      have p0 := cell_two hk9 HGN.out.1 HGN.out.2 p0
      have p1 := cell_two hk9 HGN.out.1 HGN.out.2 p1
      have p2 := cell_two hk9 HGN.out.1 HGN.out.2 p2
      obtain ⟨gq, hgq⟩ : ∃ q, q = w9.heap.size := ⟨_, rfl⟩
      go_upto_region 15 with fail
      rw [← hgq]
      generalize hw10 : w9.alloc (.cells #[.slice (some ⟨qs, rs, none⟩) 1 cS, .bool false, .bool false, .bool false, .bool false] 37) = w10
      have hk10 : Keeps nobody w9 w10 := by rw [← hw10]; exact (Keeps.refl _ w9).alloc _
      have o0 : w10.cell? ⟨gq, 0, none⟩ = some (.slice (some ⟨qs, rs, none⟩) 1 cS) := by rw [← hw10, hgq, (Blk.new w9 _ _).cell]; rfl
      have p0 := cell_quiet p0 hk10
      have p1 := cell_quiet p1 hk10
      have p2 := cell_quiet p2 hk10
      have ct0 := cell_quiet ct0 hk10
      have ct2 := cell_quiet ct2 hk10
      have HP10 := Lib.hid (hpend.pair.quiet hk10)
      have HDATA := Lib.hid (hdata.keeps hk10 (fun _ _ h => h))
      have HEC := Lib.hid (show Calls Tryz.prog 29 #[.agg #[.int .i64 (c : Int), .int .i64 9, .slice A n cA]] w10 fun e w' => ∃ u, e = .returned (.tuple #[u, .int .i64 0]) ∧ w'.ownsRow w10.heap.size 5 1 u E.length (u8s E) ∧ Below w10.heap.size w10 w' by
        have hr10 : Row w10 (fun b => b < w.heap.size) 1 (.slice A n cA) l.length (u8s l) := by have h := HX.out.keeps (Keeps.new HP10.out.below) (fun _ _ h => h); rw [HNL.out] at h ⊢; exact h
        have h := docencode_any _ _ ⟨(c : Int), 9, l⟩ w10 hr10
        rw [HEN.out, ← HEE.out] at h
        exact h)
      clear hk9 hk10 hgq hw10 hps1 hps2 hpend hdata HIN
      go_wp2_with fail
      refine HEC.out.mono ?_
      rintro e w11 ⟨u, rfl, hown, hbel⟩
      obtain ⟨AU, cU, rfl⟩ := own_form hown
      have hk11 := Keeps.new hbel
      have o0 := cell_quiet o0 hk11
      have ct0 := cell_quiet ct0 hk11
      have ct2 := cell_quiet ct2 hk11
      have hsame := same_any _ _ _ _ E E w11 (HDATA.out.keeps hk11 (fun _ _ h => h)) (Row.of_own hown)
      rw [decide_eq_true (rfl : E = E)] at hsame
      obtain ⟨El, hEl⟩ : ∃ q, q = E.length := ⟨_, rfl⟩
      rw [← hEl] at hsame ct2 ⊢
      have HSM := Lib.hid hsame
      have HP11 := Lib.hid (HP10.out.quiet hk11)
      clear hown hbel hk11 hsame hEl HEC HDATA HP10 p0 p1 p2
      go_wp2_with fail
      refine HSM.out.mono ?_
      rintro e w12 ⟨rfl, hk12⟩
      have HP12 := Lib.hid (HP11.out.quiet hk12)
      have HS12 := Lib.hid (show Calls Tryz.prog 16 #[.pointer (some ⟨gx, 0, none⟩)] w12 fun e w' => e = .returned (.int .i64 9) ∧ w12 = w' from HP12.out.state)
      clear hk12 HSM HP11 o0 ct0 ct2
      go_wp2_with fail
      refine HS12.out.mono ?_
      rintro e w' ⟨rfl, rfl⟩
      clear HS12
      by_cases hf7 : 1 ≤ f ∧ f ≤ 7
      · have h17 : 1 ≤ f := (And.left hf7)
        have h77 : f ≤ 7 := (And.right hf7)
        have kb : Keeps nobody w12 (w12.alloc (.cells #[.int .u8 (f : Int), .int .u8 1, .int .u8 0, .int .u8 4] 5)) := (Keeps.refl _ w12).alloc _
        have hbb : Blk (w12.alloc (.cells #[.int .u8 (f : Int), .int .u8 1, .int .u8 0, .int .u8 4] 5)) w12.heap.size 5 (u8s [fb, 1, 0, 4]).toArray := by
          rw [HF.out]; exact Blk.new _ _ _
        have hrb := Row.block (F := fun b => w12.heap.size ≤ b ∧ b < (w12.alloc (.cells #[.int .u8 (f : Int), .int .u8 1, .int .u8 0, .int .u8 4] 5)).heap.size) (n := 4) (c := 4) (size := 1) hbb ⟨Nat.le_refl _, by simp⟩ rfl (by unfold maxLen; omega) (Nat.le_refl _)
        have hin : (fewOpen 2).input ⟨7, 1, [fb, 1, 0, 4]⟩ = ({ fewOpen 3 with m := ⟨5, 2, 2, 3, 2⟩ }, ⟨[⟨5, 3, []⟩], false, true, false, false⟩) := by
          rw [fewOpen_reject 2 (by decide)]
          exact if_pos (by rw [← HF.out]; exact hf7)
        have HINT := Lib.hid (show Calls Tryz.prog 15 #[.pointer (some ⟨gx, 0, none⟩), .agg #[.int .i64 7, .int .i64 1, .slice (some ⟨w12.heap.size, 0, none⟩) 4 4]] (w12.alloc (.cells #[.int .u8 (f : Int), .int .u8 1, .int .u8 0, .int .u8 4] 5)) fun r w' => ∃ sv, r = .returned (.agg #[sv, .bool false, .bool true, .bool false, .bool false]) ∧ NPend w w' g mb 0 V0 V1 l0 l1 gx mx gy my { fewOpen 3 with m := ⟨5, 2, 2, 3, 2⟩ } (fewOpen 1) sv [⟨5, 3, []⟩] from (HP12.out.quiet kb).hears (.slice (some ⟨w12.heap.size, 0, none⟩) 4 4) ⟨7, 1, [fb, 1, 0, 4]⟩ (NPair.hand_new HP12.out hrb (fun b hb => hb)) (by decide) (by decide) (by decide) hin)
        clear kb hbb hrb hin
        go_wp2_with fail
        refine HINT.out.mono ?_
        rintro e wt ⟨sv, rfl, hpend⟩
        obtain ⟨AT, cT, hsv⟩ := hpend.form
        obtain ⟨pt, hpt1, hpt2⟩ := hpend.rows
        have HPT := Lib.hid hpend.pair
        obtain ⟨vt, rfl⟩ := one_pkt hpt1
        have hsv : sv = .slice AT 1 cT := hsv
        subst hsv
        obtain ⟨qt, rt, A't, c't, rfl, rfl, ct0, _, _, _⟩ := pkt_read hpt2
        dsimp only at ct0
        have hst := hpend.pair.state
        have HST := Lib.hid (fun (W : World) (k : Keeps nobody wt W) => (show Calls Tryz.prog 16 #[.pointer (some ⟨gx, 0, none⟩)] W fun e w' => e = .returned (.int .i64 5) ∧ W = w' from (HPT.out.quiet k).state))
        have hkt : Keeps nobody wt (wt.alloc (.cells #[.slice (some ⟨qt, rt, none⟩) 1 cT, .bool false, .bool true, .bool false, .bool false] 37)) := (Keeps.refl _ wt).alloc _
        have ct0 := cell_quiet ct0 hkt
        have HSTA := Lib.hid (HST.out _ hkt)
        have HBT := Lib.hid (Below.quiet HPT.out.below hkt HPT.out.below.size)
        clear hpt1 hpt2 hpend hst HST hkt HINT
        have e1f : decide ((1 : Int) ≤ (f : Int)) = true := decide_eq_true (by omega)
        have e1n : decide (1 ≤ f) = true := decide_eq_true h17
        have e7f : decide ((f : Int) ≤ 7) = true := decide_eq_true (by omega)
        have e7n : decide (f ≤ 7) = true := decide_eq_true h77
        go_wp2_with fail
        refine HSTA.out.mono ?_
        rintro e w' ⟨rfl, rfl⟩
        go_wp2_with fail
        go_ret
        exact ⟨rfl, HBT.out⟩
      · have kb : Keeps nobody w12 (w12.alloc (.cells #[.int .u8 (f : Int), .int .u8 1, .int .u8 0, .int .u8 4] 5)) := (Keeps.refl _ w12).alloc _
        have hbb : Blk (w12.alloc (.cells #[.int .u8 (f : Int), .int .u8 1, .int .u8 0, .int .u8 4] 5)) w12.heap.size 5 (u8s [fb, 1, 0, 4]).toArray := by
          rw [HF.out]; exact Blk.new _ _ _
        have hrb := Row.block (F := fun b => w12.heap.size ≤ b ∧ b < (w12.alloc (.cells #[.int .u8 (f : Int), .int .u8 1, .int .u8 0, .int .u8 4] 5)).heap.size) (n := 4) (c := 4) (size := 1) hbb ⟨Nat.le_refl _, by simp⟩ rfl (by unfold maxLen; omega) (Nat.le_refl _)
        have hin : (fewOpen 2).input ⟨7, 1, [fb, 1, 0, 4]⟩ = ((fewOpen 2), ⟨[], false, false, false, false⟩) := by
          rw [fewOpen_reject 2 (by decide)]
          exact if_neg (by rw [← HF.out]; exact hf7)
        have HINT := Lib.hid (show Calls Tryz.prog 15 #[.pointer (some ⟨gx, 0, none⟩), .agg #[.int .i64 7, .int .i64 1, .slice (some ⟨w12.heap.size, 0, none⟩) 4 4]] (w12.alloc (.cells #[.int .u8 (f : Int), .int .u8 1, .int .u8 0, .int .u8 4] 5)) fun r w' => ∃ sv, r = .returned (.agg #[sv, .bool false, .bool false, .bool false, .bool false]) ∧ NPend w w' g mb 0 V0 V1 l0 l1 gx mx gy my (fewOpen 2) (fewOpen 1) sv [] from (HP12.out.quiet kb).hears (.slice (some ⟨w12.heap.size, 0, none⟩) 4 4) ⟨7, 1, [fb, 1, 0, 4]⟩ (NPair.hand_new HP12.out hrb (fun b hb => hb)) (by decide) (by decide) (by decide) hin)
        clear kb hbb hrb hin
        go_wp2_with fail
        refine HINT.out.mono ?_
        rintro e wt ⟨sv, rfl, hpend⟩
        obtain ⟨AT, cT, hsv⟩ := hpend.form
        obtain ⟨pt, hpt1, hpt2⟩ := hpend.rows
        have HPT := Lib.hid hpend.pair
        have hsv : sv = .slice AT 0 cT := hsv
        subst hsv
        have HST := Lib.hid (fun (W : World) (k : Keeps nobody wt W) => (show Calls Tryz.prog 16 #[.pointer (some ⟨gx, 0, none⟩)] W fun e w' => e = .returned (.int .i64 9) ∧ W = w' from (HPT.out.quiet k).state))
        have hkt : Keeps nobody wt (wt.alloc (.cells #[.slice AT 0 cT, .bool false, .bool false, .bool false, .bool false] 37)) := (Keeps.refl _ wt).alloc _
        have HSTA := Lib.hid (HST.out _ hkt)
        have HBT := Lib.hid (Below.quiet HPT.out.below hkt HPT.out.below.size)
        clear hpt1 hpt2 hpend HST hkt HINT
        by_cases h17 : 1 ≤ f
        · have h77 : ¬ f ≤ 7 := fun h => hf7 ⟨h17, h⟩
          have e1f : decide ((1 : Int) ≤ (f : Int)) = true := decide_eq_true (by omega)
          have e1n : decide (1 ≤ f) = true := decide_eq_true h17
          have e7f : decide ((f : Int) ≤ 7) = false := decide_eq_false (by omega)
          have e7n : decide (f ≤ 7) = false := decide_eq_false h77
          go_wp2_with fail
          refine HSTA.out.mono ?_
          rintro e w' ⟨rfl, rfl⟩
          go_wp2_with fail
          go_ret
          exact ⟨rfl, HBT.out⟩
        · have e1f : decide ((1 : Int) ≤ (f : Int)) = false := decide_eq_false (by omega)
          have e1n : decide (1 ≤ f) = false := decide_eq_false h17
          go_wp2_with fail
          refine HSTA.out.mono ?_
          rintro e w' ⟨rfl, rfl⟩
          go_wp2_with fail
          go_ret
          exact ⟨rfl, HBT.out⟩
  · have ec0 : ((c : Int) == 0) = false := by rw [beq_eq_false_iff_ne]; omega
    have ec7 : decide ((7 : Int) < (c : Int)) = false := decide_eq_false (by omega)
    have ec7n : decide (7 < c) = false := decide_eq_false (by omega)
    clear hcc
    go_upto_region 18 with fail
    by_cases hf7 : 1 ≤ f ∧ f ≤ 7
    · have h17 : 1 ≤ f := (And.left hf7)
      have h77 : f ≤ 7 := (And.right hf7)
      have kb : Keeps nobody w7 (w7.alloc (.cells #[.int .u8 (f : Int), .int .u8 1, .int .u8 0, .int .u8 4] 5)) := (Keeps.refl _ w7).alloc _
      have hbb : Blk (w7.alloc (.cells #[.int .u8 (f : Int), .int .u8 1, .int .u8 0, .int .u8 4] 5)) w7.heap.size 5 (u8s [fb, 1, 0, 4]).toArray := by
        rw [HF.out]; exact Blk.new _ _ _
      have hrb := Row.block (F := fun b => w7.heap.size ≤ b ∧ b < (w7.alloc (.cells #[.int .u8 (f : Int), .int .u8 1, .int .u8 0, .int .u8 4] 5)).heap.size) (n := 4) (c := 4) (size := 1) hbb ⟨Nat.le_refl _, by simp⟩ rfl (by unfold maxLen; omega) (Nat.le_refl _)
      have hin : (fewOpen 1).input ⟨7, 1, [fb, 1, 0, 4]⟩ = ({ fewOpen 2 with m := ⟨5, 2, 2, 3, 2⟩ }, ⟨[⟨5, 2, []⟩], false, true, false, false⟩) := by
        rw [fewOpen_reject 1 (by decide)]
        exact if_pos (by rw [← HF.out]; exact hf7)
      have HINT := Lib.hid (show Calls Tryz.prog 15 #[.pointer (some ⟨gx, 0, none⟩), .agg #[.int .i64 7, .int .i64 1, .slice (some ⟨w7.heap.size, 0, none⟩) 4 4]] (w7.alloc (.cells #[.int .u8 (f : Int), .int .u8 1, .int .u8 0, .int .u8 4] 5)) fun r w' => ∃ sv, r = .returned (.agg #[sv, .bool false, .bool true, .bool false, .bool false]) ∧ NPend w w' g mb 0 V0 V1 l0 l1 gx mx gy my { fewOpen 2 with m := ⟨5, 2, 2, 3, 2⟩ } (fewOpen 1) sv [⟨5, 2, []⟩] from (HP.out.quiet kb).hears (.slice (some ⟨w7.heap.size, 0, none⟩) 4 4) ⟨7, 1, [fb, 1, 0, 4]⟩ (NPair.hand_new HP.out hrb (fun b hb => hb)) (by decide) (by decide) (by decide) hin)
      clear kb hbb hrb hin
      go_wp2_with fail
      refine HINT.out.mono ?_
      rintro e wt ⟨sv, rfl, hpend⟩
      obtain ⟨AT, cT, hsv⟩ := hpend.form
      obtain ⟨pt, hpt1, hpt2⟩ := hpend.rows
      have HPT := Lib.hid hpend.pair
      obtain ⟨vt, rfl⟩ := one_pkt hpt1
      have hsv : sv = .slice AT 1 cT := hsv
      subst hsv
      obtain ⟨qt, rt, A't, c't, rfl, rfl, ct0, _, _, _⟩ := pkt_read hpt2
      dsimp only at ct0
      have hst := hpend.pair.state
      have HST := Lib.hid (fun (W : World) (k : Keeps nobody wt W) => (show Calls Tryz.prog 16 #[.pointer (some ⟨gx, 0, none⟩)] W fun e w' => e = .returned (.int .i64 5) ∧ W = w' from (HPT.out.quiet k).state))
      have hkt : Keeps nobody wt (wt.alloc (.cells #[.slice (some ⟨qt, rt, none⟩) 1 cT, .bool false, .bool true, .bool false, .bool false] 37)) := (Keeps.refl _ wt).alloc _
      have ct0 := cell_quiet ct0 hkt
      have HSTA := Lib.hid (HST.out _ hkt)
      have HBT := Lib.hid (Below.quiet HPT.out.below hkt HPT.out.below.size)
      clear hpt1 hpt2 hpend hst HST hkt HINT
      have e1f : decide ((1 : Int) ≤ (f : Int)) = true := decide_eq_true (by omega)
      have e1n : decide (1 ≤ f) = true := decide_eq_true h17
      have e7f : decide ((f : Int) ≤ 7) = true := decide_eq_true (by omega)
      have e7n : decide (f ≤ 7) = true := decide_eq_true h77
      go_wp2_with fail
      refine HSTA.out.mono ?_
      rintro e w' ⟨rfl, rfl⟩
      go_wp2_with fail
      go_ret
      exact ⟨rfl, HBT.out⟩
    · have kb : Keeps nobody w7 (w7.alloc (.cells #[.int .u8 (f : Int), .int .u8 1, .int .u8 0, .int .u8 4] 5)) := (Keeps.refl _ w7).alloc _
      have hbb : Blk (w7.alloc (.cells #[.int .u8 (f : Int), .int .u8 1, .int .u8 0, .int .u8 4] 5)) w7.heap.size 5 (u8s [fb, 1, 0, 4]).toArray := by
        rw [HF.out]; exact Blk.new _ _ _
      have hrb := Row.block (F := fun b => w7.heap.size ≤ b ∧ b < (w7.alloc (.cells #[.int .u8 (f : Int), .int .u8 1, .int .u8 0, .int .u8 4] 5)).heap.size) (n := 4) (c := 4) (size := 1) hbb ⟨Nat.le_refl _, by simp⟩ rfl (by unfold maxLen; omega) (Nat.le_refl _)
      have hin : (fewOpen 1).input ⟨7, 1, [fb, 1, 0, 4]⟩ = ((fewOpen 1), ⟨[], false, false, false, false⟩) := by
        rw [fewOpen_reject 1 (by decide)]
        exact if_neg (by rw [← HF.out]; exact hf7)
      have HINT := Lib.hid (show Calls Tryz.prog 15 #[.pointer (some ⟨gx, 0, none⟩), .agg #[.int .i64 7, .int .i64 1, .slice (some ⟨w7.heap.size, 0, none⟩) 4 4]] (w7.alloc (.cells #[.int .u8 (f : Int), .int .u8 1, .int .u8 0, .int .u8 4] 5)) fun r w' => ∃ sv, r = .returned (.agg #[sv, .bool false, .bool false, .bool false, .bool false]) ∧ NPend w w' g mb 0 V0 V1 l0 l1 gx mx gy my (fewOpen 1) (fewOpen 1) sv [] from (HP.out.quiet kb).hears (.slice (some ⟨w7.heap.size, 0, none⟩) 4 4) ⟨7, 1, [fb, 1, 0, 4]⟩ (NPair.hand_new HP.out hrb (fun b hb => hb)) (by decide) (by decide) (by decide) hin)
      clear kb hbb hrb hin
      go_wp2_with fail
      refine HINT.out.mono ?_
      rintro e wt ⟨sv, rfl, hpend⟩
      obtain ⟨AT, cT, hsv⟩ := hpend.form
      obtain ⟨pt, hpt1, hpt2⟩ := hpend.rows
      have HPT := Lib.hid hpend.pair
      have hsv : sv = .slice AT 0 cT := hsv
      subst hsv
      have HST := Lib.hid (fun (W : World) (k : Keeps nobody wt W) => (show Calls Tryz.prog 16 #[.pointer (some ⟨gx, 0, none⟩)] W fun e w' => e = .returned (.int .i64 9) ∧ W = w' from (HPT.out.quiet k).state))
      have hkt : Keeps nobody wt (wt.alloc (.cells #[.slice AT 0 cT, .bool false, .bool false, .bool false, .bool false] 37)) := (Keeps.refl _ wt).alloc _
      have HSTA := Lib.hid (HST.out _ hkt)
      have HBT := Lib.hid (Below.quiet HPT.out.below hkt HPT.out.below.size)
      clear hpt1 hpt2 hpend HST hkt HINT
      by_cases h17 : 1 ≤ f
      · have h77 : ¬ f ≤ 7 := fun h => hf7 ⟨h17, h⟩
        have e1f : decide ((1 : Int) ≤ (f : Int)) = true := decide_eq_true (by omega)
        have e1n : decide (1 ≤ f) = true := decide_eq_true h17
        have e7f : decide ((f : Int) ≤ 7) = false := decide_eq_false (by omega)
        have e7n : decide (f ≤ 7) = false := decide_eq_false h77
        go_wp2_with fail
        refine HSTA.out.mono ?_
        rintro e w' ⟨rfl, rfl⟩
        go_wp2_with fail
        go_ret
        exact ⟨rfl, HBT.out⟩
      · have e1f : decide ((1 : Int) ≤ (f : Int)) = false := decide_eq_false (by omega)
        have e1n : decide (1 ≤ f) = false := decide_eq_false h17
        go_wp2_with fail
        refine HSTA.out.mono ?_
        rintro e w' ⟨rfl, rfl⟩
        go_wp2_with fail
        go_ret
        exact ⟨rfl, HBT.out⟩
theorem negoCodes_walk (a0 : Int) (a1 : Option Addr) (len1 cap1 : Nat) (z1 : List Int) (a2 : Int) (w : World) (hg : Env13 w) (h0 : (Lit.int .u8 a0).wf = true) (h1 : IsRow .u8 w a1 len1 cap1 z1) (h2 : (Lit.int .u8 a2).wf = true) :
    Calls Tryz.prog 9 #[.int .u8 a0, .slice a1 len1 cap1, .int .u8 a2] w fun e w' => e = .returned (.bool true) ∧ Below w.heap.size w w' := by
  obtain ⟨b0, c0⟩ := u8_of_wf h0
  obtain ⟨b2, c2⟩ := u8_of_wf h2
  obtain ⟨c, rfl⟩ : ∃ n : Nat, a0 = (n : Int) := ⟨a0.toNat, by omega⟩
  obtain ⟨l, hl, hr⟩ := h1.bytes
  subst hl
  have hf : a2 = ((UInt8.ofNat a2.toNat).toNat : Nat) := by rw [UInt8.toNat_ofNat']; omega
  rw [hf]
  exact negoCodes_walk' c (UInt8.ofNat a2.toNat) _ l (by omega) w hg hr
end Go.Proofs.YtjomcffhbaplcaaGreatDoor
