/- The walk of the law Rc4Again. -/
import Derived.Test.YtkfcdeeohhghhaaLaw5A
import Derived.Test.YtkfcdeeohhghhaaCopy
namespace Go.Proofs.Ytkfcdeeohhghhaa
open Go.RowKit

set_option maxRecDepth 100000 in
set_option maxHeartbeats 4000000 in
theorem rc4Again_walk (a0 : Option Addr) (len0 cap0 : Nat) (z0 : List Int) (a1 : Option Addr) (len1 cap1 : Nat) (z1 : List Int) (w : World) (w0 : IsRow .u8 w a0 len0 cap0 z0) (w1 : IsRow .u8 w a1 len1 cap1 z1) :
    Calls Try.prog 7 #[.slice a0 len0 cap0, .slice a1 len1 cap1] w fun e w' => e = .returned (.bool true) ∧ Below w.heap.size w w' := by
  obtain ⟨ks, hkl, hr⟩ := w0.bytes
  obtain ⟨bs, hbl, hr'⟩ := w1.bytes
  rw [← hkl] at hr ⊢
  rw [← hbl] at hr' ⊢
  have hmax := hr.2.1
  have hmax' := hr'.2.1
  unfold maxLen at hmax hmax'
  have HK := Lib.hid hr
  have HB := Lib.hid hr'
  have HA := Lib.hid (awake_any w)
  clear hr hr' w0 w1 hkl hbl
  go_enter Try.func7, Try.ntmps7
  go_wp2_with fail
  refine HA.out.mono ?_
  rintro e wa ⟨rfl, hba⟩
  have BA := Lib.hid hba
  clear hba HA
  by_cases hok : 0 < ks.length ∧ ks.length ≤ 128 ∧ bs.length ≤ 1000
  · obtain ⟨o1, o2, o3⟩ := hok
    have c1 : ¬ (ks.length : Int) = 0 := by omega
    have c2 : ¬ (ks.length : Int) > 128 := by omega
    have c3 : ¬ (bs.length : Int) > 1000 := by omega
    have g1 : ((ks.length : Int) == 0) = false := by rw [beq_eq_false_iff_ne]; exact c1
    have g2 : (decide ((ks.length : Int) > 128)) = false := by simp; omega
    have g3 : (decide ((bs.length : Int) > 1000)) = false := by simp; omega
    have HN := Lib.hid (newL BA.out (HK.out.keeps (Keeps.new BA.out) (fun _ _ h => h)) o1 (by omega))
    go_wp2_with fail
    refine HN.out.mono ?_
    rintro e wb ⟨x, rfl, hx, ox, hkb, hbb⟩
    obtain ⟨c, hc⟩ : ∃ c, c = Pure.Rc.new ks := ⟨_, rfl⟩
    have hn0 : c.n = 0 := by rw [hc]; rfl
    have htw := Pure.Rc.new_twice ks (by intro e; rw [e] at o1; simp at o1)
    rw [← hc] at ox htw
    have HTW := Lib.hid htw
    have OX := Lib.hid ox
    have BB := Lib.hid hbb
    have hxw : w.heap.size ≤ x := by have := BA.out.size; omega
    have HKB := Lib.hid (HK.out.keeps (Keeps.new BB.out) (fun _ _ h => h))
    have HCP := Lib.hid (copy_any _ _ ks wb HKB.out (fun b hb => by have := BB.out.size; omega) (by omega))
    clear ox hkb hbb htw hc hx HN c1 c2 c3
    go_wp2_with fail
    refine HCP.out.mono ?_
    rintro e wc ⟨u, rfl, hu, hbc⟩
    obtain ⟨Au, cu, rfl⟩ := own_form hu
    have U := Lib.hid hu
    have BC := Lib.hid (BB.out.trans (hbc.mono BB.out.size))
    have OXC := Lib.hid (OX.out.keeps (Keeps.new hbc) (fun h => h))
    have HKC := Lib.hid (HK.out.keeps (Keeps.new BC.out) (fun _ _ h => h))
    have hsz := hbc.size
    clear hu hbc HCP
    go_wp2_with (at_builtin; refine stopHere ?_)
    unfold Hid
    refine wp_append_u8 rfl (.tmp 31) (.tmp 32) rfl wb.heap.size _ ks.length ks rfl rfl U.out _ _ ks rfl HKC.out (by omega) hsz ?_
    intro v3 w3 hown3 hg3 hat3
    obtain ⟨K2, hK2⟩ : ∃ K2, K2 = ks ++ ks := ⟨_, rfl⟩
    have hK3 : K2.length = ks.length + ks.length := by rw [hK2, List.length_append]
    rw [← hK2] at hown3
    have htw2 := HTW.out
    rw [← hK2] at htw2
    obtain ⟨A3, c3, rfl⟩ := own_form hown3
    have hxwb := OX.out.lt
    have hk3 : Keeps (fun b => wb.heap.size ≤ b) wc w3 := (Keeps.refl _ wc).grown hg3 (fun q hq _ => ownsRow_ge U.out q hq)
    have hwb := BB.out.size
    have B3 := Lib.hid (Below.grown BC.out hg3 BC.out.size (fun q hq => by have := ownsRow_ge U.out q hq; omega))
    have OX3 := Lib.hid (OXC.out.keeps hk3 (fun h => by omega))
    have HN2 := Lib.hid (newL B3.out (Row.of_own hown3) (by omega) (by omega))
    rw [htw2] at HN2
    clear htw2 hK2 hK3 hown3 hg3 hat3 hk3 U BC OXC HKC HKB
    go_wp2_with fail
    with_reducible refine HN2.out.mono ?_
    rintro e w4 ⟨y, rfl, hy, oy, hk4, hb4⟩
    have hxlt := OX3.out.lt
    have hyx : y ≠ x := by omega
    have hyw : w.heap.size ≤ y := by have := B3.out.size; omega
    have OX4 := Lib.hid (OX3.out.keeps hk4 (fun h => h))
    have OY4 := Lib.hid oy
    have HX := Lib.hid (xorL hb4 OX4.out hxw (HB.out.keeps (Keeps.new hb4) (fun _ _ h => h)) (by omega) (by omega) (by omega))
    clear oy hk4 hb4 hy HN2 OX3
    go_wp2_with fail
    with_reducible refine HX.out.mono ?_
    rintro e w5 ⟨A5, c5, rfl, hu, _, hK, hB5⟩
    have OY5 := Lib.hid (OY4.out.keeps hK (fun h => hyx h))
    have U5 := Lib.hid hu
    have hylt := OY4.out.lt
    have HY := Lib.hid (xorL hB5 OY5.out hyw (HB.out.keeps (Keeps.new hB5) (fun _ _ h => h)) (by omega) (by omega) (by omega))
    clear hu hK hB5 HX OY4
    go_wp2_with fail
    with_reducible refine HY.out.mono ?_
    rintro e w6 ⟨A6, c6, rfl, hv, _, hK, hB6⟩
    have HS := Lib.hid (sameN hB6 (Row.of_own (own_only U5.out hK hylt)) (Row.of_own hv) (Pure.Rc.xor_length bs c) (Pure.Rc.xor_length bs c))
    clear hv hK hB6 HY
    go_wp2_with fail
    with_reducible refine HS.out.mono ?_
    rintro e w7 ⟨rfl, _, hb7⟩
    have B7 := Lib.hid hb7
    clear hb7 HS
    go_wp2
    go_ret
    exact ⟨by simp, B7.out⟩
  · by_cases c1 : (ks.length : Int) = 0
    · have g1 : ((ks.length : Int) == 0) = true := by rw [beq_iff_eq]; exact c1
      go_wp2
      go_ret
      exact ⟨rfl, BA.out⟩
    · have g1 : ((ks.length : Int) == 0) = false := by rw [beq_eq_false_iff_ne]; exact c1
      by_cases c2 : (ks.length : Int) > 128
      · go_wp2
        go_ret
        exact ⟨rfl, BA.out⟩
      · have c3 : (bs.length : Int) > 1000 := by omega
        go_wp2
        go_ret
        exact ⟨rfl, BA.out⟩
end Go.Proofs.Ytkfcdeeohhghhaa
