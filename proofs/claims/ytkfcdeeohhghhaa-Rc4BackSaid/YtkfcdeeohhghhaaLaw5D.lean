/- The walk of the law Rc4Back. -/
import Derived.Test.YtkfcdeeohhghhaaLaw5A
import Derived.Test.YtkfcdeeohhghhaaCut
import Derived.Test.YtkfcdeeohhghhaaLast
namespace Go.Proofs.Ytkfcdeeohhghhaa
open Go.RowKit

theorem cut_value (a : Option Addr) (c q m : Nat) : Value.slice (if c = q then a else Option.map (fun x => x.add q) a) m (c - q) = cutV a c q m := by
  unfold cutV
  by_cases h : c = q
  · rw [if_pos h, if_pos h, h, Nat.sub_self]
  · rw [if_neg h, if_neg h]

set_option maxRecDepth 100000 in
set_option maxHeartbeats 8000000 in
theorem rc4Back_walk (a0 : Option Addr) (len0 cap0 : Nat) (z0 : List Int) (a1 : Option Addr) (len1 cap1 : Nat) (z1 : List Int) (a2 : Int) (w : World) (w0 : IsRow .u8 w a0 len0 cap0 z0) (w1 : IsRow .u8 w a1 len1 cap1 z1) (w2 : (Lit.int .i64 a2).wf = true) :
    Calls Try.prog 5 #[.slice a0 len0 cap0, .slice a1 len1 cap1, .int .i64 a2] w fun e w' => e = .returned (.bool true) ∧ Below w.heap.size w w' := by
  obtain ⟨ks, hkl, hr⟩ := w0.bytes
  obtain ⟨bs, hbl, hr'⟩ := w1.bytes
  have hi64 := i64_of_wf w2
  rw [← hkl] at hr ⊢
  rw [← hbl] at hr' ⊢
  have hmax := hr.2.1
  have hmax' := hr'.2.1
  unfold maxLen at hmax hmax'
  have hc1 : bs.length ≤ cap1 := by
    obtain ⟨_, _, e, hle⟩ := hr'.form
    injection e with _ _ e
    omega
  have HK := Lib.hid hr
  have HB := Lib.hid hr'
  have HA := Lib.hid (awake_any w)
  clear hr hr' w0 w1 w2 hkl hbl
  go_enter Try.func5, Try.ntmps5
  go_wp2_with fail
  refine HA.out.mono ?_
  rintro e wa ⟨rfl, hba⟩
  have BA := Lib.hid hba
  clear hba HA
  by_cases hok : 0 < ks.length ∧ ks.length ≤ 256 ∧ bs.length ≤ 2000
  · obtain ⟨o1, o2, o3⟩ := hok
    have c1 : ¬ (ks.length : Int) = 0 := by omega
    have g1 : ((ks.length : Int) == 0) = false := by rw [beq_eq_false_iff_ne]; exact c1
    have g2 : (decide ((ks.length : Int) > 256)) = false := by simp; omega
    have g3 : (decide ((bs.length : Int) > 2000)) = false := by simp; omega
    have t1 := Int.tmod_lt_of_pos a2 (show 0 < (bs.length : Int) + 1 by omega)
    have t2 := Int.lt_tmod_of_pos a2 (show 0 < (bs.length : Int) + 1 by omega)
    have t3 : 0 ≤ a2.tmod ((bs.length : Int) + 1) + (bs.length : Int) + 1 := by omega
    have t4 : a2.tmod ((bs.length : Int) + 1) + (bs.length : Int) + 1 ≤ 100000 := by omega
    clear c1
    go_upto_region 6 with fail
    obtain ⟨q, hq⟩ : ∃ q : Nat, (a2.tmod ((bs.length : Int) + 1) + (bs.length : Int) + 1) % ((bs.length : Int) + 1) = (q : Int) := ⟨_, (Int.toNat_of_nonneg (Int.emod_nonneg _ (by omega))).symm⟩
    have hq2 : q ≤ bs.length := by
      have := Int.emod_lt_of_pos (a2.tmod ((bs.length : Int) + 1) + (bs.length : Int) + 1) (show 0 < (bs.length : Int) + 1 by omega)
      omega
    rw [hq]
    have HN := Lib.hid (newL BA.out (HK.out.keeps (Keeps.new BA.out) (fun _ _ h => h)) o1 o2)
    clear hq t1 t2 t3 t4 g1 g2 g3
    go_wp2_with fail
    refine HN.out.mono ?_
    rintro e wb ⟨x, rfl, hx, ox, hkb, hbb⟩
    obtain ⟨c, hc⟩ : ∃ c, c = Pure.Rc.new ks := ⟨_, rfl⟩
    have hn0 : c.n = 0 := by rw [hc]; rfl
    have hwa := BA.out.size
    have HN2 := Lib.hid (newL hbb (HK.out.keeps (Keeps.new hbb) (fun _ _ h => h)) o1 o2)
    rw [← hc] at ox HN2
    have OX := Lib.hid ox
    have hxw : w.heap.size ≤ x := by omega
    have hx2 := ox.lt
    clear ox hkb hbb hx HN
    go_wp2_with fail
    refine HN2.out.mono ?_
    rintro e wc ⟨y, rfl, hy, oy, hkc, hbc⟩
    have OX1 := Lib.hid (OX.out.keeps hkc (fun h => h))
    have hxy : x < y := by omega
    have hy2 := oy.lt
    have OY := Lib.hid oy
    have HN3 := Lib.hid (newL hbc (HK.out.keeps (Keeps.new hbc) (fun _ _ h => h)) o1 o2)
    rw [← hc] at HN3
    clear oy hkc hbc hy HN2 OX hx2
    go_wp2_with fail
    refine HN3.out.mono ?_
    rintro e wd ⟨z, rfl, hz, oz, hkd, hbd⟩
    have OX2 := Lib.hid (OX1.out.keeps hkd (fun h => h))
    have OY2 := Lib.hid (OY.out.keeps hkd (fun h => h))
    have OZ2 := Lib.hid oz
    have hyz : y < z := by omega
    have hz2 := oz.lt
    have HX := Lib.hid (xorL hbd OX2.out hxw (HB.out.keeps (Keeps.new hbd) (fun _ _ h => h)) (by omega) (by omega) (by omega))
    have HCC := Lib.hid hc
    clear oz hkd hbd hz HN3 OX1 OY hy2 hc
    go_wp2_with fail
    with_reducible refine HX.out.mono ?_
    rintro e we ⟨A1, k1, rfl, hu, _, hK, hB⟩
    have U1 := Lib.hid hu
    have LT1 := Lib.hid (ownsRow_lt hu)
    have BE := Lib.hid hB
    have OY3 := Lib.hid (OY2.out.keeps hK (fun h => by unfold only at h; omega))
    have OZ3 := Lib.hid (OZ2.out.keeps hK (fun h => by unfold only at h; omega))
    have hze := OZ3.out.lt
    have hde := hK.size
    have HBE := Lib.hid (HB.out.keeps (Keeps.new hB) (fun _ _ h => h))
    clear hu hK hB HX OY2 OZ2 OX2
    have hq0 : (0 : Int) ≤ (q : Int) := by omega
    have hq1 : (q : Int) ≤ (bs.length : Int) := by omega
    have hq3 : (q : Int) ≤ (cap1 : Int) := by omega
    have hq4 : (bs.length : Int) ≤ (cap1 : Int) := by omega
    go_upto_region 12 with fail
    obtain ⟨P, hP⟩ : ∃ P, P = bs.take q := ⟨_, rfl⟩
    obtain ⟨R, hR⟩ : ∃ R, R = bs.drop q := ⟨_, rfl⟩
    have hPl : P.length = q := by rw [hP, List.length_take]; omega
    have hRl : R.length = bs.length - q := by rw [hR, List.length_drop]
    have hbP : bs = P ++ R := by rw [hP, hR, List.take_append_drop]
    have hrP : Row we.drew (fun b => b < w.heap.size) 1 (.slice a1 q cap1) P.length (u8s P) := by
      rw [hPl, hP, u8s_take]
      exact (HBE.out.take1 q hq2).keeps (Keeps.refl nobody we).drew (fun _ _ h => h)
    have hrR : Row we (fun b => b < w.heap.size) 1 (cutV a1 cap1 q (bs.length - q)) R.length (u8s R) := by
      have h := Row.cutV HBE.out q (bs.length - q) (by omega)
      rw [List.take_of_length_le (by simp), ← hR] at h
      rw [hRl]
      exact h
    have HRR := Lib.hid hrR
    have HBP := Lib.hid hbP
    have HRL := Lib.hid hRl
    have hPl2 : P.length ≤ 2000 := by omega
    have hRl2 : R.length ≤ 2000 := by omega
    have hPR : P.length + R.length = bs.length := by omega
    have HPR := Lib.hid hPR
    have HZ := Lib.hid (xorL (below_drew BE.out) (OZ3.out.keeps (Keeps.refl nobody we).drew (fun h => h)) (by omega) hrP (by omega) (by omega) (by omega))
    have hcn : (c.xor P).1.n ≤ 1000000000 := by rw [Pure.Rc.xor_n]; omega
    have HCN := Lib.hid hcn
    clear hP hR hPl hRl hbP hrP hrR hPR hcn
    refine wp_region_Z (fun _ => True) 11 12 rfl (by kernel_rfl) trivial (fun _ => ?_)
    iterate 4
      refine wpAnyZ_next rfl (by kernel_rfl) (fun _ _ _ h => h) (Or.inl ⟨by rfl, by intro w hSw; go_simp; try with_reducible rfl⟩) trivial ?_
      simp only [Act.put, List.setIfInBounds_toArray, Nat.reduceAdd, List.getElem_toArray, List.getElem_cons_succ, List.getElem_cons_zero, List.set_cons_succ, List.set_cons_zero]
    refine wpAnyZ_take (i := 5) rfl (by kernel_rfl) (fun _ _ _ h => h) (Or.inl ⟨by rfl, by intro w hSw; go_simp; try with_reducible rfl⟩) trivial ?_
    simp only [Act.put, List.setIfInBounds_toArray, Nat.reduceAdd, List.getElem_toArray, List.getElem_cons_succ, List.getElem_cons_zero, List.set_cons_succ, List.set_cons_zero]
    refine wpAnyZ_take (i := 6) rfl (by kernel_rfl) (fun _ _ _ h => h) (Or.inl ⟨by rfl, by intro w hSw; go_simp; try with_reducible rfl⟩) trivial ?_
    simp only [Act.put, List.setIfInBounds_toArray, Nat.reduceAdd, List.getElem_toArray, List.getElem_cons_succ, List.getElem_cons_zero, List.set_cons_succ, List.set_cons_zero]
    refine wpAnyZ_take (i := 7) rfl (by kernel_rfl) (fun _ _ _ h => h) (Or.inl ⟨by rfl, by intro w hSw; go_simp; try with_reducible rfl⟩) trivial ?_
    simp only [Act.put, List.setIfInBounds_toArray, Nat.reduceAdd, List.getElem_toArray, List.getElem_cons_succ, List.getElem_cons_zero, List.set_cons_succ, List.set_cons_zero]
    refine wpAnyZ_take (i := 8) (v := cutV a1 cap1 q (bs.length - q)) rfl (by kernel_rfl) (fun _ _ _ h => h) (Or.inl ⟨by rfl, by intro w hSw; go_simp; exact cut_value a1 cap1 q (bs.length - q)⟩) trivial ?_
    try simp only [Act.put, List.setIfInBounds_toArray, Nat.reduceAdd, List.getElem_toArray, List.getElem_cons_succ, List.getElem_cons_zero, List.set_cons_succ, List.set_cons_zero]
    refine wpAnyZ_one (i := 4) (by kernel_rfl) rfl (fun K hK => ?_)
    go_simp
    with_reducible refine HZ.out.mono ?_
    rintro e wf ⟨A2, k2, rfl, hu2, hz2, hK2, hB2⟩
    have U2 := Lib.hid hu2
    have OY4 := Lib.hid (OY3.out.keeps ((Keeps.refl (only z) we).drew.trans hK2) (fun h => by unfold only at h; omega))
    have U12 := Lib.hid (own_only U1.out ((Keeps.refl (only z) we).drew.trans hK2) (by omega))
    have hef : we.heap.size ≤ wf.heap.size := hK2.size
    have HZ2 := Lib.hid (xorL hB2 hz2 (by omega) (HRR.out.keeps ((Keeps.refl (only z) we).drew.trans hK2) (fun b hb h => by unfold only at h; omega)) (by omega) (by omega) HCN.out)
    refine hK.out _ _ (fun _ => trivial) ?_
    clear hK K hu2 hz2 hK2 hB2 HZ OY3 OZ3 U1
    try simp only [Act.put, List.setIfInBounds_toArray, Nat.reduceAdd, List.getElem_toArray, List.getElem_cons_succ, List.getElem_cons_zero, List.set_cons_succ, List.set_cons_zero]
    refine wpAnyZ_one (i := 9) (by kernel_rfl) rfl (fun K hK => ?_)
    go_simp
    with_reducible refine HZ2.out.mono ?_
    rintro e wg ⟨A3, k3, rfl, hu3, _, hK3, hB3⟩
    have hzf : z < wf.heap.size := by omega
    have U3 := Lib.hid hu3
    have U22 := Lib.hid (own_only U2.out hK3 (by have e : we.drew.heap.size = we.heap.size := rfl; rw [e]; exact hze))
    have U13 := Lib.hid (own_only U12.out hK3 (by omega))
    have OY5 := Lib.hid (OY4.out.keeps hK3 (fun h => by unfold only at h; omega))
    have BG := Lib.hid hB3
    have hfg := hK3.size
    have hzd : wd.heap.size ≤ we.heap.size := hde
    refine hK.out _ _ (fun _ => trivial) ?_
    clear hK K hu3 hK3 hB3 HZ2 OY4 U12 U2
    try simp only [Act.put, List.setIfInBounds_toArray, Nat.reduceAdd, List.getElem_toArray, List.getElem_cons_succ, List.getElem_cons_zero, List.set_cons_succ, List.set_cons_zero]
    refine wpAnyZ_one (i := 10) (by kernel_rfl) rfl (fun K hK => ?_)
    rw [if_pos (by rfl)]
    have hl1 : (c.xor P).2.length = P.length := Pure.Rc.xor_length _ _
    have hl2 : ((c.xor P).1.xor R).2.length = R.length := Pure.Rc.xor_length _ _
    have hsz : we.drew.heap.size ≤ wg.heap.size := by show we.heap.size ≤ _; omega
    refine wpo_append_u8 (.tmp 75) (.tmp 80) rfl we.drew.heap.size _ P.length (c.xor P).2 hl1 rfl U22.out _ _ ((c.xor P).1.xor R).2 rfl (by rw [hl2]; exact Row.of_own U3.out) (by rw [hl2]; omega) hsz ?_
    intro v3 w3 hown3 hg3 hat3
    have hj : (c.xor P).2 ++ ((c.xor P).1.xor R).2 = (c.xor bs).2 := by rw [HBP.out, Pure.Rc.xor_append]
    rw [hj, Pure.Rc.xor_length] at hown3
    obtain ⟨A4, k4, rfl⟩ := own_form hown3
    have hk4 : Keeps (fun b => we.heap.size ≤ b) wg w3 := (Keeps.refl _ wg).grown hg3 (fun q hq _ => ownsRow_ge U22.out q hq)
    have hwe : w.heap.size ≤ we.heap.size := by omega
    have B4 := Lib.hid (Below.grown BG.out hg3 BG.out.size (fun q hq => by have := ownsRow_ge U22.out q hq; have e : we.drew.heap.size = we.heap.size := rfl; omega))
    have hu14 := ownsRow_keeps U13.out hk4 (fun b hb h => by
      have := LT1.out b hb
      omega)
    have OY6 := Lib.hid (OY5.out.keeps hk4 (fun h => by omega))
    have U14 := Lib.hid hu14
    have V4 := Lib.hid hown3
    refine hK.out _ _ (fun _ => trivial) ?_
    clear hK K hown3 hg3 hat3 hk4 hu14 hj hl1 hl2 U3 U22 U13 OY5 BG
    try simp only [Act.put, List.setIfInBounds_toArray, Nat.reduceAdd, List.getElem_toArray, List.getElem_cons_succ, List.getElem_cons_zero, List.set_cons_succ, List.set_cons_zero]
    refine wpAnyZ_one (i := 11) (by kernel_rfl) rfl (fun K hK => ?_)
    go_simp
    refine hK.out _ _ (fun h => absurd rfl h) ?_
    clear hK K
    refine wpAnyZ_done (by kernel_rfl) ?_ _
    have hw4 := B4.out.size
    have hab : (c.xor bs).2.length = bs.length := Pure.Rc.xor_length bs c
    have HAB := Lib.hid hab
    obtain ⟨L, hL⟩ : ∃ L, L = (c.xor bs).2 := ⟨_, rfl⟩
    have hu15 := U14.out
    rw [← hL] at hab hu15
    have HY := Lib.hid (xorL (bs := L) B4.out OY6.out (by omega) (by rw [hab]; exact Row.of_own hu15) (fun h => by have := ownsRow_ge hu15 y h; omega) (by omega) (by omega))
    have hbk : (c.xor L).2 = bs := by rw [hL, Pure.Rc.xor_back]
    rw [hbk, hab] at HY
    clear hL hu15 hbk hab
    go_wp2_with fail
    with_reducible refine HY.out.mono ?_
    rintro e w5 ⟨A5, k5, rfl, hu5, _, hK5, hB5⟩
    have hy4 := OY6.out.lt
    have hyd : y < wd.heap.size := by omega
    have hye : y < we.drew.heap.size := by show y < we.heap.size; omega
    have U15 := Lib.hid (own_only U14.out hK5 hyd)
    have V5 := Lib.hid (own_only V4.out hK5 hye)
    have HS := Lib.hid (sameY hB5 (Row.of_own hu5) (HB.out.keeps (Keeps.new hB5) (fun _ _ h => h)) rfl rfl)
    clear hu5 hK5 hB5 HY U14 V4 OY6
    go_wp2_with fail
    with_reducible refine HS.out.mono ?_
    rintro e w6 ⟨rfl, hK6, hB6⟩
    have HS2 := Lib.hid (sameY hB6 (Row.of_own (own_quiet V5.out hK6)) (Row.of_own (own_quiet U15.out hK6)) HAB.out rfl)
    clear hK6 hB6 HS U15 V5
    go_wp2_with fail
    with_reducible refine HS2.out.mono ?_
    rintro e w7 ⟨rfl, _, hB7⟩
    have B7 := Lib.hid hB7
    clear hB7 HS2
    go_wp2
    go_ret
    exact ⟨rfl, B7.out⟩
  · by_cases c1 : (ks.length : Int) = 0
    · have g1 : ((ks.length : Int) == 0) = true := by rw [beq_iff_eq]; exact c1
      go_wp2
      go_ret
      exact ⟨rfl, BA.out⟩
    · have g1 : ((ks.length : Int) == 0) = false := by rw [beq_eq_false_iff_ne]; exact c1
      by_cases c2 : (ks.length : Int) > 256
      · go_wp2
        go_ret
        exact ⟨rfl, BA.out⟩
      · have c3 : (bs.length : Int) > 2000 := by omega
        go_wp2
        go_ret
        exact ⟨rfl, BA.out⟩
end Go.Proofs.Ytkfcdeeohhghhaa
