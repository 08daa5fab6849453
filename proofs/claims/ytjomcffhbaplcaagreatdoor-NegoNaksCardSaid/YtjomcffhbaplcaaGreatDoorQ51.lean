/- Chapter 13's statements: NegoNaks. -/
import Derived.Test.YtjomcffhbaplcaaGreatDoorQ50
namespace Go.Proofs.YtjomcffhbaplcaaGreatDoor
open Go.RowKit
def nk (n i : Nat) : Pure.Neg := { Pure.begun Pure.fewRules [] n 500 with naks := min i n }
theorem nk_start (n : Nat) : Pure.begun Pure.fewRules [] n 500 = nk n 0 := by
  unfold nk
  rw [show min 0 n = 0 by omega]
  rfl
theorem nk_less {n i : Nat} (h : i < n) {b : List UInt8} (hb : b.length = 2) (hg : 1500 < Pure.bnum b) : (nk n i).input ⟨1, (i : Nat), 1 :: 4 :: b⟩ = (nk n (i + 1), Pure.sends [⟨3, (i : Nat), 1 :: 4 :: Pure.wide 1500 2⟩]) := by
  have h1 := Pure.naks_once (n := nk n i) (c := n - 1) (l := 500) (t := n) (u := 500) rfl rfl hb hg i
  rw [if_neg (show ¬ n ≤ (nk n i).naks by show ¬ n ≤ min i n; omega)] at h1
  rw [h1]
  unfold nk
  rw [show min (i + 1) n = min i n + 1 by omega]
theorem nk_more {n i : Nat} (h : ¬ i < n) {b : List UInt8} (hb : b.length = 2) (hg : 1500 < Pure.bnum b) : (nk n i).input ⟨1, (i : Nat), 1 :: 4 :: b⟩ = (nk n (i + 1), Pure.sends [⟨4, (i : Nat), 1 :: 4 :: b⟩]) := by
  have h1 := Pure.naks_once (n := nk n i) (c := n - 1) (l := 500) (t := n) (u := 500) rfl rfl hb hg i
  rw [if_pos (show n ≤ (nk n i).naks by show n ≤ min i n; omega)] at h1
  rw [h1]
  unfold nk
  rw [show min (i + 1) n = min i n by omega]
theorem own_pair (w : World) (x y : UInt8) : (w.alloc (.cells #[.int .u8 x.toNat, .int .u8 y.toNat] 5)).ownsRow w.heap.size 5 1 (.slice (some ⟨w.heap.size, 0, none⟩) 2 2) 2 (u8s [x, y]) :=
  ⟨rfl, .inr ⟨w.heap.size, 2, (u8s [x, y]).toArray, rfl, Nat.le_refl _, Blk.new w 5 (u8s [x, y]).toArray, Nat.le_refl _, by unfold maxLen; omega, rfl, rfl⟩⟩
theorem measure13 {k m : Nat} (h : k < m) (e : wrap64 ((k : Int) + 1) = ((k + 1 : Nat) : Int)) : m - (intOf (.int .i64 (wrap64 ((k : Int) + 1)))).toNat < m - (intOf (.int .i64 (k : Int))).toNat := by
  rw [e]
  show m - (((k + 1 : Nat) : Int)).toNat < m - ((k : Int)).toNat
  omega
set_option maxRecDepth 100000 in
set_option maxHeartbeats 8000000 in
theorem negoNaks_walk' (t d : Nat) (ht : t < 256) (hd : d < 65536) (w : World) (env : Env13 w) :
    Calls Tryz.prog 7 #[.int .u8 (t : Int), .int .u16 (d : Int)] w fun e w' => e = .returned (.bool true) ∧ Below w.heap.size w w' := by
  have HAW := Lib.hid (awake_any w)
  have HENV := Lib.hid env
  obtain ⟨n, hn⟩ : ∃ n : Nat, n = 1 + t % 6 := ⟨_, rfl⟩
  have EN := Lib.hid (show (1 : Int) + (t : Int) % 6 = (n : Int) by omega)
  have HN := Lib.hid (show 1 ≤ n ∧ n ≤ 6 by omega)
  have ed : (2000 : Int) + (d : Int) % 60000 = ((2000 + d % 60000 : Nat) : Int) := by omega
  obtain ⟨D, hD⟩ : ∃ D : Nat, D = 2000 + d % 60000 := ⟨_, rfl⟩
  rw [← hD] at ed
  have ED := Lib.hid ed
  have HD := Lib.hid (show 1500 < D ∧ D < 65536 by omega)
  clear env hn hD ed
  go_enter Tryz.func7, Tryz.ntmps7
  go_wp2_with fail
  refine HAW.out.mono ?_
  rintro e w1 ⟨rfl, hk1⟩
  have HK1 := Lib.hid hk1
  clear hk1 HAW
  go_upto_region 4 with fail
  rw [EN.out]
  have HRU2 := Lib.hid (rules_any w1)
  go_wp2_with fail
  refine HRU2.out.mono ?_
  rintro e w2a ⟨u2a, us2a, rfl, hrow2a, hus2a, hk2a⟩
  obtain ⟨A2a, c2a, rfl, _⟩ := hrow2a.form
  have HUS2 := Lib.hid hus2a
  have HK2a := Lib.hid (HK1.out.trans hk2a)
  have HA2 := Lib.hid (asRules_any _ _ us2a w2a hrow2a (fun b hb => hb.2) (few_rules hus2a).len)
  clear hrow2a hus2a hk2a HRU2
  go_wp2_with fail
  refine HA2.out.mono ?_
  rintro e w2b ⟨u2b, qs2, rfl, hq2, hr2⟩
  obtain ⟨A2b, c2b, rfl⟩ := own_form hr2.own
  obtain ⟨hrow2, hf2, hfw2⟩ := few_made hr2 hq2 HUS2.out
  have HK2b := Lib.hid (HK2a.out.trans hr2.kept)
  have hnew2 := new_none _ _ qs2 w2b hrow2 hfw2 n 500 (show mayBe n 500 by have := HN.out; unfold mayBe; omega)
  rw [hf2] at hnew2
  obtain ⟨ql2, hql2⟩ : ∃ q, q = qs2.length := ⟨_, rfl⟩
  rw [← hql2] at hnew2 ⊢
  have HNW2 := Lib.hid (show Calls Tryz.prog 13 #[.slice A2b ql2 c2b, .slice none 0 0, .int .i64 (n : Int), .int .i64 500] w2b _ from hnew2)
  clear hq2 hr2 hrow2 hf2 hfw2 hnew2 hql2 HA2 HUS2
  go_wp2_with fail
  refine HNW2.out.mono ?_
  rintro e w2 ⟨gx, f2, R2, rfl, hn2, x12, x22, x32, hk2⟩
  have hso := solo_new HENV.out HK2b.out.to_below hk2 hn2 x12 x22
  obtain ⟨mx, hmx⟩ : ∃ q, q = f2.gm := ⟨_, rfl⟩
  rw [← hmx] at hso
  have HSO := Lib.hid hso
  clear hso hmx hn2 x12 x22 x32 hk2 HNW2 HK2b HK2a HK1 HENV
  go_upto_region 7 with fail
  have HWA := Lib.hid (show Calls Tryz.prog 24 #[.int .i64 (D : Int), .int .i64 2] w2 _ from docwide_any D 2 w2 (by omega) (by have := HD.out; omega))
  have ed := ED.out
  go_wp2_with fail
  clear ed
  refine HWA.out.mono ?_
  rintro e w3 ⟨u, rfl, hown, hbel⟩
  obtain ⟨A3, c3, rfl⟩ := own_form hown
  have hlt2 := HSO.out.lt
  have hr3 : Row w3 (fun b => w2.heap.size ≤ b ∧ b < w3.heap.size) 1 (.slice A3 2 c3) 2 (u8s (Pure.wide D 2)) := (Row.of_own hown).strong.mono (fun b hb => ⟨ownsRow_ge hown b hb.1, hb.2⟩)
  have HR3 := Lib.hid (hr3.mono (G := fun b => b < w3.heap.size ∧ b ≠ gx ∧ b ≠ mx) (fun b hb => ⟨hb.2, by omega, by omega⟩))
  have HNUM := Lib.hid (show Calls Tryz.prog 26 #[.slice A3 2 c3] w3 fun e w' => e = .returned (.int .i64 (D : Nat)) ∧ w3 = w' by
    have h := docnum_any _ _ (Pure.wide D 2) w3 (by rw [Pure.wide_two]; exact HR3.out) (by rw [Pure.wide_two]; decide)
    rw [Pure.two_bytes HD.out.2] at h
    exact h)
  have hso := HSO.out.quiet (Keeps.new hbel)
  have HSO := Lib.hid hso
  have HDO := Lib.hid (hso.does 0 (.inl rfl) (Nat.zero_le _) (Pure.neg_up Pure.fewRules [] n 500))
  have d1 : decide ((D : Int) ≤ 1500) = false := decide_eq_false (by have := HD.out; omega)
  have d2 : decide (D ≤ 1500) = false := decide_eq_false (by have := HD.out; omega)
  clear hown hbel hlt2 hr3 HWA hso
  go_wp2_with fail
  refine HNUM.out.mono ?_
  rintro e w' ⟨rfl, rfl⟩
  clear HNUM
  go_wp2_with fail
  refine HDO.out.mono ?_
  rintro e w4 ⟨sv, rfl, hso, _, hk4⟩
  have HSO := Lib.hid hso
  have HDO := Lib.hid (hso.does 2 (.inr (.inr (.inl rfl))) (Nat.zero_le _) (Pure.neg_open Pure.fewRules [] n 500))
  have HR4 := Lib.hid ((HR3.out.keeps hk4 (fun b hb e => e.elim hb.2.1 hb.2.2)).mono (G := fun b => b < w4.heap.size ∧ b ≠ gx ∧ b ≠ mx) (fun b hb => ⟨Nat.lt_of_lt_of_le hb.1 hk4.size, hb.2⟩))
  clear hso hk4 d1 d2 HR3
  go_wp2_with fail
  refine HDO.out.mono ?_
  rintro e w5 ⟨sv, rfl, hso, _, hk5⟩
  rw [nk_start] at hso
  have HSO := Lib.hid hso
  have HR5 := Lib.hid ((HR4.out.keeps hk5 (fun b hb e => e.elim hb.2.1 hb.2.2)).mono (G := fun b => b < w5.heap.size ∧ b ≠ gx ∧ b ≠ mx) (fun b hb => ⟨Nat.lt_of_lt_of_le hb.1 hk5.size, hb.2⟩))
  clear hso hk5 HR4 HDO
  go_wp2_with fail
  go_loopw [9] (fun v wr => ∃ k : Nat, k ≤ n + 3 ∧ v = .int .i64 (k : Int) ∧ NSolo w wr gx mx (nk n k) ∧ Row wr (fun b => b < wr.heap.size ∧ b ≠ gx ∧ b ≠ mx) 1 (.slice A3 2 c3) 2 (u8s (Pure.wide D 2))) (fun v _ => n + 3 - (intOf v).toNat)
  case atStart => exact ⟨0, by omega, rfl, HSO.out, HR5.out⟩
  case round =>
    obtain ⟨k, hk, rfl, hs, hr⟩ := hrel
    have HSK := Lib.hid hs
    have HRK := Lib.hid hr
    clear hs hr HSO HR5
    have en3 : wrap64 ((n : Int) + 3) = ((n + 3 : Nat) : Int) := by rw [IntWalk.wrap64_in _ (by have := HN.out; omega)]; omega
    by_cases hkl : k < n + 3
    · have d1 : decide ((k : Int) < (n : Int) + 3) = true := decide_eq_true (by omega)
      have d2 : decide (k < n + 3) = true := decide_eq_true hkl
      have LW := Lib.hid (show wrap64 ((k : Int) + 1) = ((k + 1 : Nat) : Int) by rw [IntWalk.wrap64_in _ (by have := HN.out; omega)]; omega)
      clear hk
      go_wp2_with (at_builtin; refine stopHere ?_)
      unfold Hid
      clear en3
      have kz : Keeps nobody wr (wr.alloc (.cells #[.int .u8 1, .int .u8 4] 5)) := (Keeps.refl _ wr).alloc _
      refine wp_append_u8 rfl (.tmp 47) (.tmp 48) rfl wr.heap.size (.slice (some ⟨wr.heap.size, 0, none⟩) 2 2) 2 [1, 4] rfl rfl (own_pair wr 1 4) (fun b => b < wr.heap.size ∧ b ≠ gx ∧ b ≠ mx) (.slice A3 2 c3) (Pure.wide D 2) rfl (by rw [Pure.wide_two]; exact HRK.out.keeps kz (fun _ _ h => h)) (by rw [Pure.wide_two]; omega) (by simp) ?_
      intro v6 w6 hown6 hg6 _
      have hl6 : ([1, 4] ++ Pure.wide D 2).length = 4 := by rw [List.length_append, Pure.wide_two]; rfl
      rw [hl6] at hown6
      obtain ⟨A6, c6, rfl⟩ := own_form hown6
      have hk6 : Keeps nobody wr w6 := kz.grown hg6 (fun b e hlt => by
        have e : b = wr.heap.size := by injection e with e; exact e.symm
        omega)
      have hlt := HSK.out.lt
      have hs6 := HSK.out.quiet hk6
      have hr6 := HRK.out.keeps hk6 (fun _ _ h => h)
      obtain ⟨C, B, hB, hin, hcb⟩ : ∃ (C : Nat) (B : List UInt8), B.length = 2 ∧ (nk n k).input ⟨1, (k : Nat), 1 :: 4 :: Pure.wide D 2⟩ = (nk n (k + 1), Pure.sends [⟨C, (k : Nat), 1 :: 4 :: B⟩]) ∧ ((k < n ∧ C = 3 ∧ B = Pure.wide 1500 2) ∨ (¬ k < n ∧ C = 4 ∧ B = Pure.wide D 2)) := by
        have hg : 1500 < Pure.bnum (Pure.wide D 2) := by rw [Pure.two_bytes HD.out.2]; exact HD.out.1
        by_cases h : k < n
        · exact ⟨3, _, Pure.wide_two _, nk_less h (Pure.wide_two D) hg, .inl ⟨h, rfl, rfl⟩⟩
        · exact ⟨4, _, Pure.wide_two _, nk_more h (Pure.wide_two D) hg, .inr ⟨h, rfl, rfl⟩⟩
      have HIN := Lib.hid (show Calls Tryz.prog 15 #[.pointer (some ⟨gx, 0, none⟩), .agg #[.int .i64 1, .int .i64 (k : Int), .slice A6 4 c6]] w6 fun r w' => ∃ sv, r = .returned (.agg #[sv, .bool false, .bool false, .bool false, .bool false]) ∧ NSolo w w' gx mx (nk n (k + 1)) ∧ Posts w6 w' sv [⟨C, (k : Nat), 1 :: 4 :: B⟩] ∧ Keeps (fun b => b = gx ∨ b = mx) w6 w' from
        hs6.hears (F := fun b => wr.heap.size ≤ b ∧ b < w6.heap.size) (.slice A6 4 c6) ⟨1, (k : Nat), 1 :: 4 :: Pure.wide D 2⟩ (by
          have h := (Row.of_own hown6).strong.mono (G := fun b => wr.heap.size ≤ b ∧ b < w6.heap.size) (fun b hb => ⟨ownsRow_ge hown6 b hb.1, hb.2⟩)
          have e : (1 :: 4 :: Pure.wide D 2).length = 4 := hl6
          show Row w6 _ 1 _ (1 :: 4 :: Pure.wide D 2).length _
          rw [e]
          exact h) (fun b hb => ⟨hb.2, by omega, by omega⟩) (by show min k n ≤ 1000; have := HN.out; omega) (by show Pure.fewRules.length ≤ 1000; decide) (Nat.zero_le _) hin)
      have HR6 := Lib.hid hr6
      have HB := Lib.hid hB
      have HCB := Lib.hid hcb
      have HK6 := Lib.hid hk6
      clear hown6 hg6 hlt hs6 hr6 hin hB hcb hl6 kz hk6 HSK HRK
      go_wp2_with fail
      refine HIN.out.mono ?_
      rintro e w7 ⟨sv, rfl, hso, hpo, hk7⟩
      obtain ⟨q, r, cS, A', c', rfl, hq, s0, s1, s2, hdata⟩ := hpo.one
      dsimp only at s0 s1 s2 hdata
      have hl4 : (1 :: 4 :: B).length = 4 := by show B.length + 1 + 1 = 4; have := HB.out; omega
      rw [hl4] at s2 hdata
      have hc4 : 4 ≤ c' := by
        obtain ⟨_, _, e, h⟩ := hdata.form
        injection e with _ _ e
        omega
      obtain ⟨bd, od, rfl, _, _⟩ := hdata.cellAt (by decide)
      obtain ⟨go, hgo⟩ : ∃ q, q = w7.heap.size := ⟨_, rfl⟩
      go_upto_region 16 with fail
      rw [← hgo]
      generalize hw8 : w7.alloc (.cells #[.slice (some ⟨q, r, none⟩) 1 cS, .bool false, .bool false, .bool false, .bool false] 37) = w8
      have hk8 : Keeps nobody w7 w8 := by rw [← hw8]; exact (Keeps.refl _ w7).alloc _
      have hgb : Blk w8 go 37 #[.slice (some ⟨q, r, none⟩) 1 cS, .bool false, .bool false, .bool false, .bool false] := by rw [← hw8, hgo]; exact Blk.new w7 _ _
      have o0 : w8.cell? ⟨go, 0, none⟩ = some (.slice (some ⟨q, r, none⟩) 1 cS) := by rw [hgb.cell]; rfl
      have s0 := cell_quiet s0 hk8
      have s1 := cell_quiet s1 hk8
      have s2 := cell_quiet s2 hk8
      have HS8 := Lib.hid (hso.quiet hk8)
      have HR8 := Lib.hid (((HR6.out.keeps hk7 (fun b hb e => e.elim hb.2.1 hb.2.2)).keeps hk8 (fun _ _ h => h)).mono (G := fun b => b < w8.heap.size ∧ b ≠ gx ∧ b ≠ mx) (fun b hb => ⟨by have := HK6.out.size; have := hk7.size; have := hk8.size; omega, hb.2⟩))
      have hcut : Row w8 (fun b => w6.heap.size ≤ b ∧ b < w7.heap.size) 1 (.slice (some ⟨bd, od + 2, none⟩) 2 (c' - 2)) 2 (u8s B) := by
        have h := (hdata.keeps hk8 (fun _ _ h => h)).cut1 2 2 (by omega)
        have e : ((u8s (1 :: 4 :: B)).drop 2).take 2 = u8s B := List.take_of_length_le (by show (u8s B).length ≤ 2; rw [List.length_map]; have := HB.out; omega)
        rw [e] at h
        exact h
      have HCUT := Lib.hid hcut
      clear hso hpo hk7 hq hdata hl4 hgo hw8 hk8 hgb hcut HIN HR6
      rcases HCB.out with ⟨hkn, rfl, rfl⟩ | ⟨hkn, rfl, rfl⟩
      · have s0 : w8.cell? ⟨q, r, none⟩ = some (.int .i64 3) := s0
        have d3 : decide ((n : Int) ≤ (k : Int)) = false := decide_eq_false (by omega)
        have d4 : decide (n ≤ k) = false := decide_eq_false (by omega)
        have HNUM := Lib.hid (show Calls Tryz.prog 26 #[.slice (some ⟨bd, od + 2, none⟩) 2 (c' - 2)] w8 fun e w' => e = .returned (.int .i64 1500) ∧ w8 = w' by
          have h := docnum_any _ _ (Pure.wide 1500 2) w8 (by rw [HB.out]; exact HCUT.out) (by rw [HB.out]; decide)
          rw [Pure.two_bytes (by decide)] at h
          exact h)
        clear HB HCB HCUT
        go_wp2_with fail
        refine HNUM.out.mono ?_
        rintro e w' ⟨rfl, rfl⟩
        clear HNUM
        go_wp2_with fail
        clear d1 d2 d3 d4
        go_roundw
        case rel => exact ⟨k + 1, Nat.succ_le_of_lt hkl, by rw [LW.out], HS8.out, HR8.out⟩
        case measure => exact measure13 hkl LW.out
      · have s0 : w8.cell? ⟨q, r, none⟩ = some (.int .i64 4) := s0
        have d3 : decide ((n : Int) ≤ (k : Int)) = true := decide_eq_true (by omega)
        have d4 : decide (n ≤ k) = true := decide_eq_true (by omega)
        have HSAME := Lib.hid (show Calls Tryz.prog 21 #[.slice (some ⟨bd, od + 2, none⟩) 2 (c' - 2), .slice A3 2 c3] w8 fun e w' => e = .returned (.bool true) ∧ Keeps nobody w8 w' by
          have h := same_any _ _ _ _ (Pure.wide D 2) (Pure.wide D 2) w8 (by rw [HB.out]; exact HCUT.out) (by rw [HB.out]; exact HR8.out)
          rw [decide_eq_true (rfl : Pure.wide D 2 = Pure.wide D 2)] at h
          exact h)
        clear HB HCB HCUT
        go_wp2_with fail
        refine HSAME.out.mono ?_
        rintro e w9 ⟨rfl, hk9⟩
        have HS9 := Lib.hid (HS8.out.quiet hk9)
        have HR9 := Lib.hid ((HR8.out.keeps hk9 (fun _ _ h => h)).mono (G := fun b => b < w9.heap.size ∧ b ≠ gx ∧ b ≠ mx) (fun b hb => ⟨Nat.lt_of_lt_of_le hb.1 hk9.size, hb.2⟩))
        clear HSAME hk9 HS8 HR8
        go_wp2_with fail
        clear d1 d2 d3 d4
        go_roundw
        case rel => exact ⟨k + 1, Nat.succ_le_of_lt hkl, by rw [LW.out], HS9.out, HR9.out⟩
        case measure => exact measure13 hkl LW.out
    · have d1 : decide ((k : Int) < (n : Int) + 3) = false := decide_eq_false (by omega)
      have d2 : decide (k < n + 3) = false := decide_eq_false hkl
      have HST := Lib.hid (show Calls Tryz.prog 16 #[.pointer (some ⟨gx, 0, none⟩)] wr fun e w' => e = .returned (.int .i64 6) ∧ wr = w' from HSK.out.state)
      have HGI := Lib.hid (show Calls Tryz.prog 19 #[.pointer (some ⟨gx, 0, none⟩)] wr fun e w' => Given wr w' e [] from HSK.out.givens)
      go_wp2_with fail
      refine HST.out.mono ?_
      rintro e w' ⟨rfl, rfl⟩
      go_wp2_with fail
      refine HGI.out.mono ?_
      rintro e w13 ⟨u, qs, rfl, hqs, _, hrow, hk13⟩
      have hqs0 : qs = [] := by cases qs with | nil => rfl | cons p t => simp at hqs
      subst hqs0
      obtain ⟨A13, c13, rfl, _⟩ := hrow.form
      have HB13 := Lib.hid (Below.quiet HSK.out.bel hk13 HSK.out.bel.size)
      clear hrow hk13 hqs HGI HST
      go_wp2_with fail
      go_ret
      exact ⟨rfl, HB13.out⟩
theorem negoNaks_walk (a0 a1 : Int) (w : World) (hg : Env13 w) (h0 : (Lit.int .u8 a0).wf = true) (h1 : (Lit.int .u16 a1).wf = true) :
    Calls Tryz.prog 7 #[.int .u8 a0, .int .u16 a1] w fun e w' => e = .returned (.bool true) ∧ Below w.heap.size w w' := by
  obtain ⟨b0, c0⟩ := u8_of_wf h0
  obtain ⟨b1, c1⟩ := u16_of_wf h1
  obtain ⟨t, rfl⟩ : ∃ n : Nat, a0 = (n : Int) := ⟨a0.toNat, by omega⟩
  obtain ⟨d, rfl⟩ : ∃ n : Nat, a1 = (n : Int) := ⟨a1.toNat, by omega⟩
  exact negoNaks_walk' t d (by omega) (by omega) w hg
end Go.Proofs.YtjomcffhbaplcaaGreatDoor
