/- The walk of the law StuffBack. -/
import Derived.Test.YtapcclahekkgpaaStuffL
import Derived.Test.YtapcclahekkgpaaLaw3C
namespace Go.Proofs.Ytapcclahekkgpaa
open Go.RowKit

theorem Pure.DF.feed_stuffs {m : Nat} (d : Pure.DF) (he : d.esc = false) (hf : d.frame = []) (hm : Pure.Covers m d.accm) : ∀ ls : List (List UInt8), (∀ b ∈ ls, b.length ≤ d.most) →
    d.feed (ls.flatMap (Pure.stuff m)) = (d, ls.filter (fun b => !b.isEmpty))
  | [], _ => rfl
  | b :: ls, h => by
    have h1 := h b (by simp)
    rw [List.flatMap_cons, Pure.DF.feed_append, Pure.DF.feed_stuff b d he hf hm, if_neg (by omega)]
    simp only
    rw [Pure.DF.feed_stuffs d he hf hm ls (fun c hc => h c (by simp [hc]))]
    cases hb : b.isEmpty
    · simp [hb]
    · simp [hb]
theorem back_first (a : Nat) : ((⟨a, 300, [], false, 0⟩ : Pure.DF).feed [9, 125, 7, 126]).1 = ⟨a, 300, [], false, 0⟩ := by
  cases h : Pure.mapd a 9
  · simp [Pure.DF.feed_cons, Pure.DF.feed_nil, Pure.DF.step, h, Pure.DF.keep, Pure.DF.cut, Pure.DF.bad]
  · simp [Pure.DF.feed_cons, Pure.DF.feed_nil, Pure.DF.step, h, Pure.DF.keep, Pure.DF.cut, Pure.DF.bad]
/-- What stands between the flags. -/
theorem stuff_inner (m : Nat) (b : List UInt8) (j : Nat) (h1 : 1 ≤ j) (h2 : j + 1 < (Pure.stuff m b).length) : ((Pure.stuff m b).getD j 0).toNat ≠ 126 ∧ Pure.mapd m ((Pure.stuff m b).getD j 0) = false := by
  obtain ⟨i, rfl⟩ : ∃ i, j = i + 1 := ⟨j - 1, by omega⟩
  have e : Pure.stuff m b = 126 :: (Pure.body m b ++ [126]) := rfl
  have hi : i < (Pure.body m b).length := by rw [e] at h2; simp at h2; omega
  have hg : (Pure.stuff m b).getD (i + 1) 0 = (Pure.body m b)[i] := by
    rw [e, List.getD_cons_succ, List.getD_eq_getElem?_getD, List.getElem?_append_left hi, List.getElem?_eq_getElem hi]
    rfl
  rw [hg]
  exact Pure.body_mem m b _ (List.getElem_mem hi)

set_option maxRecDepth 100000 in
set_option maxHeartbeats 4000000 in
theorem stuffBack_walk (a0 a1 : Int) (a2 : Option Addr) (len2 cap2 : Nat) (w : World) (w0 : (Lit.int .u32 a0).wf = true) (w1 : (Lit.int .u32 a1).wf = true) (w2 : IsStructs w [.row .u8] a2 len2 cap2) :
    Calls Try.prog 6 #[.int .u32 a0, .int .u32 a1, .slice a2 len2 cap2] w fun e w' => e = .returned (.bool true) ∧ Below w.heap.size w w' := by
  obtain ⟨ps, hpl, hfr⟩ := frows_of w2
  obtain ⟨m, rfl⟩ : ∃ m : Nat, a0 = m := ⟨a0.toNat, by have := u32_of_wf w0; omega⟩
  obtain ⟨l, rfl⟩ : ∃ l : Nat, a1 = l := ⟨a1.toNat, by have := u32_of_wf w1; omega⟩
  have hm : m < 4294967296 := by have := u32_of_wf w0; omega
  have hl : l < 4294967296 := by have := u32_of_wf w1; omega
  have hand := u32_and_nat m l hm hl
  obtain ⟨A, hA⟩ : ∃ A, A = m &&& l := ⟨_, rfl⟩
  rw [← hA] at hand
  have hAm : A < 4294967296 := by rw [hA]; exact Nat.lt_of_le_of_lt Nat.and_le_left hm
  have hcov : Pure.Covers m A := by rw [hA]; exact Pure.Covers.and m l
  have COV := Lib.hid hcov
  obtain ⟨N, hN⟩ : ∃ N, N = ps.length := ⟨_, rfl⟩
  have HN := Lib.hid hN
  rw [← hpl, ← hN] at hfr ⊢
  have hmax := hfr.out.2.1
  unfold maxLen at hmax
  have hmax2 : N ≤ 9223372036854775807 := by rw [hN]; omega
  have FR := Lib.hid hfr
  have HW := Lib.hid (awake_any w)
  clear hfr w0 w1 w2 hpl hA hcov hN hmax
  go_enter Try.func6, Try.ntmps6
  go_wp2_with fail
  refine HW.out.mono ?_
  rintro e wa ⟨rfl, hba⟩
  have BA := Lib.hid hba
  have HS : Calls Try.prog 17 #[.slice a2 N cap2, .int .i64 300] wa _ := small_any _ _ ps 300 wa (FR.out.keeps (Keeps.new hba) (fun _ _ h => h)) (by omega)
  have HSS := Lib.hid HS
  clear hba HW HS
  go_wp2_with fail
  refine HSS.out.mono ?_
  rintro e w' ⟨rfl, rfl⟩
  cases hsm : Pure.small ps 300
  · go_wp2
    go_ret
    exact ⟨rfl, BA.out⟩
  · unfold Pure.small at hsm
    rw [Bool.and_eq_true, decide_eq_true_eq, List.all_eq_true] at hsm
    have hN40 : N ≤ 40 := by rw [HN.out]; exact hsm.1
    have hsmall : ∀ p ∈ ps, p.2.length ≤ 300 := fun p hp => by simpa using hsm.2 p hp
    have SM := Lib.hid hsmall
    have HNW : Calls Try.prog 12 #[.int .u32 A, .int .i64 300] wa _ := new_any A 300 wa (by omega) (by omega) hAm
    have HNN := Lib.hid HNW
    clear HNW hsm hsmall HSS
    go_wp2_with fail
    refine HNN.out.mono ?_
    rintro e wb ⟨rfl, hd1, hb1⟩
    have S1 := Lib.hid (Sit.new BA.out hd1 hb1)
    obtain ⟨g, hg⟩ : ∃ g, g = wa.heap.size := ⟨_, rfl⟩
    rw [← hg] at S1 ⊢
    have hr1 := row_new wb [9, 125, 7, 126] #[.int .u8 9, .int .u8 125, .int .u8 7, .int .u8 126] 4 rfl rfl (by simp)
    have HF : Calls Try.prog 14 #[.pointer (some ⟨g, 0, none⟩), .slice (some ⟨wb.heap.size, 0, none⟩) 4 4] (wb.alloc (.cells #[.int .u8 9, .int .u8 125, .int .u8 7, .int .u8 126] 5)) _ :=
      feed_any _ _ _ _ _ [9, 125, 7, 126] _ (S1.out.alloc _).obj hr1 (fun b hb => S1.out.apart b (by rw [hb]; exact Nat.le_refl _)) (by simp) (by simp)
    have HFF := Lib.hid HF
    clear hd1 hb1 hg hr1 HF HNN hand
    go_wp2_with fail
    refine HFF.out.mono ?_
    rintro e wd ⟨x, cx, px, rfl, hpx, hat⟩
    rw [back_first] at hat
    obtain ⟨A7, c7, rfl⟩ := told_len hat.told
    have S2 := Lib.hid ((S1.out.alloc _).fed hat)
    have hwd := S2.out.le
    clear hpx hat S1 HFF
    go_wp2_with fail
    go_loopw [10, 11, 12] (fun b o i wr => ∃ k : Nat, k ≤ N ∧ i = .int .i64 k ∧ ∃ B, B = ((ps.take k).map Prod.snd).flatMap (Pure.stuff m) ∧ B.length ≤ 602 * k ∧ wr.ownsRow wd.heap.size 5 1 b B.length (u8s B) ∧
      ∃ qs, qs = (ps.take k).filter (fun p => !p.2.isEmpty) ∧ qs.length ≤ k ∧ wr.ownsRow wd.heap.size 28 1 o qs.length (qs.map Prod.fst) ∧ Below wd.heap.size wd wr) (fun _ _ i _ => N - (intOf i).toNat)
    case atStart => exact ⟨0, by omega, rfl, [], by simp, by simp, ⟨rfl, .inl ⟨rfl, rfl⟩⟩, [], by simp, by simp, ⟨rfl, .inl ⟨rfl, rfl⟩⟩, Below.refl _ _⟩
    case round =>
      obtain ⟨k, hk, rfl, B, hB, hBl, hob, qs, hqs, hql, hoq, hbel⟩ := hrel
      have HB := Lib.hid hB
      have HQ := Lib.hid hqs
      have OB := Lib.hid hob
      have OQ := Lib.hid hoq
      have S3 := Lib.hid (S2.out.more hbel)
      have BE := Lib.hid hbel
      have hsz := hbel.size
      clear hB hqs hob hoq hbel
      by_cases hkN : k < N
      · have hkp : k < ps.length := by have := HN.out; omega
        have FRk := FR.out.keeps (Keeps.new S3.out.below) (fun _ _ h => h)
        have XR := FRk.out
        rw [← HN.out] at XR
        obtain ⟨p, o, rfl, hpF, hcx⟩ := XR.cellAt (by omega)
        have c1 := hcx k ps[k].1 (by simp [hkp])
        have XP := Lib.hid (And.intro hpF hwd)
        have hp := FRk.rows ps[k] (List.getElem_mem hkp)
        obtain ⟨A1, n1, hA1, _⟩ := hp.form
        obtain ⟨f, hf⟩ : ∃ f, f = ps[k].2 := ⟨_, rfl⟩
        have hfl : f.length ≤ 300 := by rw [hf]; exact SM.out _ (List.getElem_mem hkp)
        rw [← hf] at hA1 hp
        rw [hA1] at c1 hp
        have hqk : ps[k] = (.slice A1 f.length n1, f) := Prod.ext hA1 hf.symm
        have HQK := Lib.hid hqk
        have HST := Lib.hid (stuff_any _ _ f m wr hp (by omega) hm)
        have hi0 : (0 : Int) ≤ (k : Int) := by omega
        have hi1 : (k : Int) < (N : Int) := by omega
        have hf0 := hp.2.1
        clear hcx FRk XR hp hA1 hf hqk
        go_wp2_with fail
        refine HST.out.mono ?_
        rintro e we ⟨u, rfl, hu, hb2⟩
        obtain ⟨A2, c2, rfl⟩ := own_form hu
        obtain ⟨s, hs⟩ : ∃ s, s = Pure.stuff m f := ⟨_, rfl⟩
        have hsl : s.length ≤ 602 := by have := Pure.stuff_le m f; rw [hs]; omega
        have hsl2 : 2 ≤ s.length := by have := Pure.stuff_length m f; rw [hs]; omega
        have hinner := stuff_inner m f
        rw [← hs] at hu hinner ⊢
        have IN := Lib.hid hinner
        have HSS := Lib.hid hs
        have U := Lib.hid hu
        have BE4 := Lib.hid (BE.out.trans (hb2.mono hsz))
        have OB4 := Lib.hid (ownsRow_keeps OB.out (Keeps.new hb2) (fun _ _ h => h))
        have OQ4 := Lib.hid (ownsRow_keeps OQ.out (Keeps.new hb2) (fun _ _ h => h))
        have hsz4 : wd.heap.size ≤ we.heap.size := Nat.le_trans hsz hb2.size
        have c1' : we.cell? ⟨p, o + k, none⟩ = some (.slice A1 f.length n1) := (World.cell?_of_block (w := wr) (a := ⟨p, o + k, none⟩) (hb2.block p (cell_lt c1))).trans c1
        obtain ⟨sb, rfl, hsb, hcs⟩ := own_cell hu (by omega)
        have CS := Lib.hid hcs
        have hwe := hb2.size
        clear hu hb2 hs hinner hcs c1 HST OB OQ S3 BE
        go_wp2_with fail
        go_loopw [14] (fun j wr2 => ∃ t : Nat, 1 ≤ t ∧ t + 1 ≤ s.length ∧ j = .int .i64 t ∧ we = wr2) (fun j _ => s.length - (intOf j).toNat)
        case atStart => exact ⟨1, by omega, by omega, rfl, rfl⟩
        case round =>
          obtain ⟨t, ht1, ht2, rfl, rfl⟩ := hrel
          by_cases htl : t + 1 < s.length
          · have hx := IN.out t ht1 htl
            have cb := CS.out t _ (u8s_at s t (by omega))
            obtain ⟨x, hxx⟩ : ∃ x, x = s.getD t 0 := ⟨_, rfl⟩
            rw [← hxx] at cb hx
            obtain ⟨X, hX⟩ : ∃ X, X = x.toNat := ⟨_, rfl⟩
            have hX2 : X < 256 := by rw [hX]; exact x.toNat_lt
            have ha := and1_u32 m X hm
            have hw : IntKind.u64.wrap (X : Int) = (X : Int) := by simp [IntKind.wrap, IntKind.bits, IntKind.signed]; omega
            rw [← hX] at cb hx
            have h1 : ¬ (X : Int) = 126 := by have := hx.1; omega
            have g1 : ((X : Int) == 126) = false := by rw [beq_eq_false_iff_ne]; exact h1
            have hlt1 : (t : Int) < (s.length : Int) - 1 := by omega
            have hi2 : (0 : Int) ≤ (t : Int) := by omega
            have hi3 : (t : Int) < (s.length : Int) := by omega
            have hmd := hx.2
            unfold Pure.mapd at hmd
            rw [← hX] at hmd
            clear hxx hX hx
            by_cases h32 : X < 32
            · have hb : m.testBit X = false := by simpa [h32] using hmd
              rw [hb] at ha
              simp only [Bool.false_eq_true, if_false] at ha
              have h32' : (X : Int) < 32 := by omega
              clear hb hmd
              go_wp2
              go_roundw
              case rel => exact ⟨t + 1, by omega, by omega, by go_num, by first | rfl | trivial⟩
              case measure => simp [intOf]; omega
            · have h32' : ¬ (X : Int) < 32 := by omega
              clear hmd ha
              go_wp2
              go_roundw
              case rel => exact ⟨t + 1, by omega, by omega, by go_num, by first | rfl | trivial⟩
              case measure => simp [intOf]; omega
          · have hlt1 : ¬ (t : Int) < (s.length : Int) - 1 := by omega
            have hBt : ((ps.take (k + 1)).map Prod.snd).flatMap (Pure.stuff m) = B ++ s := by
              rw [List.take_succ_eq_append_getElem hkp, List.map_append, List.flatMap_append, ← HB.out, HQK.out, HSS.out]
              simp
            have HBT := Lib.hid hBt
            clear hBt ht1 ht2
            go_wp2_with (at_builtin; refine stopHere ?_)
            unfold Hid
            refine wp_append_u8 rfl (.tmp 75) (.tmp 76) rfl wd.heap.size _ B.length B rfl rfl OB4.out _ _ s rfl (Row.of_own U.out) (by omega) hsz4 ?_
            intro v3 w3 hown3 hg3 hat3
            obtain ⟨B', hB'⟩ : ∃ B', B' = B ++ s := ⟨_, rfl⟩
            have hB'l : B'.length ≤ 602 * (k + 1) := by rw [hB', List.length_append]; omega
            rw [← hB'] at hown3 HBT
            have hb3 : Below wd.heap.size we w3 := Below.grown (Below.refl wd.heap.size we) hg3 hsz4 (fun q hq => ownsRow_ge OB4.out q hq)
            have O3 := Lib.hid hown3
            have OQ5 := Lib.hid (own_grown OQ4.out hg3 (fun b hb e => rows_apart OQ4.out OB4.out (by decide) b hb e))
            have BE5 := Lib.hid (BE4.out.trans hb3)
            have hsz5 : wd.heap.size ≤ w3.heap.size := BE5.out.size
            have hpw : p < wd.heap.size := by
              rcases XP.out with ⟨h1, h2⟩
              omega
            have c5 : w3.cell? ⟨p, o + k, none⟩ = some (.slice A1 f.length n1) := (World.cell?_of_block (w := we) (a := ⟨p, o + k, none⟩) (hb3.block p hpw)).trans c1'
            clear hown3 hg3 hat3 hb3 hB' c1' U
            by_cases hf0' : f.length = 0
            · have hfi : ¬ (f.length : Int) > 0 := by omega
              have hqt : (ps.take (k + 1)).filter (fun p => !p.2.isEmpty) = qs := by
                rw [List.take_succ_eq_append_getElem hkp, List.filter_append, ← HQ.out, HQK.out]
                simp [List.eq_nil_of_length_eq_zero hf0']
              have HQT := Lib.hid hqt
              clear hqt hf0'
              go_wp2
              go_roundw
              case rel => exact ⟨k + 1, by omega, by go_num, B', HBT.out.symm, hB'l, O3.out, qs, HQT.out.symm, by omega, OQ5.out, BE5.out⟩
              case measure => simp [intOf]; omega
            · have hfi : (f.length : Int) > 0 := by omega
              have hqt : (ps.take (k + 1)).filter (fun p => !p.2.isEmpty) = qs ++ [(.slice A1 f.length n1, f)] := by
                rw [List.take_succ_eq_append_getElem hkp, List.filter_append, ← HQ.out, HQK.out]
                cases f
                · simp at hf0'
                · simp
              have HQT := Lib.hid hqt
              clear hqt hf0'
              go_wp2_with (at_builtin; refine stopHere ?_)
              unfold Hid
              refine wp_append_rows rfl (.tmp 84) (.tmp 89) rfl wd.heap.size _ qs.length (qs.map Prod.fst) (by simp) rfl (ownsRow_keeps OQ5.out ((Keeps.refl nobody _).alloc _) (fun _ _ h => h)) (fun b => b = w3.heap.size) _ [.slice A1 f.length n1] rfl (Row.block (Blk.new w3 28 #[.slice A1 f.length n1]) rfl rfl (by simp [maxLen]) (Nat.le_refl _)) (by simp [Value.oneCell']) (by simp only [List.length_singleton]; omega) (by simp; omega) ?_
              intro v4 w4 hown4 hg4 hat4
              have hb4 : Below wd.heap.size w3 w4 := Below.grown ((Below.refl wd.heap.size w3).alloc hsz5 _) hg4 (by simp; omega) (fun q hq => ownsRow_ge OQ5.out q hq)
              have O4 := Lib.hid (own_grown (ownsRow_keeps O3.out ((Keeps.refl nobody _).alloc (.cells #[.slice A1 f.length n1] 28)) (fun _ _ h => h)) hg4 (fun b hb e => rows_apart O3.out OQ5.out (by decide) b hb e))
              have hq4 : w4.ownsRow wd.heap.size 28 1 v4 (qs ++ [(Value.slice A1 f.length n1, f)]).length ((qs ++ [(Value.slice A1 f.length n1, f)]).map Prod.fst) := by simpa using hown4
              have OQ6 := Lib.hid hq4
              have BE6 := Lib.hid (BE5.out.trans hb4)
              clear hown4 hg4 hat4 hb4 hq4
              go_wp2
              go_roundw
              case rel => exact ⟨k + 1, by omega, by go_num, B', HBT.out.symm, hB'l, O4.out, _, HQT.out.symm, by simp; omega, OQ6.out, BE6.out⟩
              case measure => simp [intOf]; omega
      · have hk' : k = N := by omega
        have hall : ps.take k = ps := List.take_of_length_le (by have := HN.out; omega)
        have hB := HB.out
        have hQ := HQ.out
        rw [hall] at hB hQ
        have hfeed := Pure.DF.feed_stuffs ⟨A, 300, [], false, 0⟩ rfl rfl COV.out (ps.map Prod.snd) (fun b hb => by
          obtain ⟨p, hp, rfl⟩ := List.mem_map.1 hb
          exact SM.out p hp)
        rw [← hB] at hfeed
        have hBl2 : B.length ≤ 100000 := by omega
        have HFE := Lib.hid (feed_any _ _ _ _ _ B wr S3.out.obj (Row.of_own OB.out) (fun b hb => S2.out.apart b (ownsRow_ge OB.out b hb)) (by simp) (by omega))
        have HE := Lib.hid hfeed
        have HQ2 := Lib.hid hQ
        clear hall hB hQ hfeed hk' HB HQ
        go_wp2_with fail
        refine HFE.out.mono ?_
        rintro e we ⟨x, cx2, px, rfl, hpx, hat⟩
        rw [HE.out] at hpx hat
        have S5 := Lib.hid (S3.out.fed hat)
        have hoq := ownsRow_keeps OQ.out hat.keep (fun b hb => S2.out.apart b (ownsRow_ge OQ.out b hb))
        have hpq : px.map Prod.snd = qs.map Prod.snd := by
          rw [hpx, HQ2.out]
          simp only
          rw [List.filter_map]
          rfl
        have hfq : FRow we (fun _ => True) u11 qs := ⟨(Row.of_own hoq).mono (fun _ _ => trivial), fun p hp => (S5.out.row (FR.out.rows p (by rw [HQ2.out] at hp; exact (List.mem_filter.1 hp).1))).mono (fun _ _ => trivial)⟩
        have FX := Lib.hid (frames_true _ _ _ _ px qs _ hat.told.frow hfq hpq)
        obtain ⟨A8, c8, rfl⟩ := told_len hat.told
        clear hpx hat hoq hpq hfq HFE
        go_wp2_with fail
        refine FX.out.mono ?_
        rintro e w4 ⟨rfl, hk4⟩
        have S6 := Lib.hid (S5.out.quiet hk4)
        have HD := Lib.hid (dropped_any _ _ _ w4 S6.out.obj)
        clear hk4 FX S5
        go_wp2_with (go_at_call 16; refine HD.out.mono ?_; rintro e w' ⟨rfl, rfl⟩)
        go_ret
        exact ⟨rfl, S6.out.below⟩
end Go.Proofs.Ytapcclahekkgpaa
