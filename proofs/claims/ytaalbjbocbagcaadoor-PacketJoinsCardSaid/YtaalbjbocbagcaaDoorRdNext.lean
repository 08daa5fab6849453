/- Package packet's reader: next. -/
import Derived.Test.YtaalbjbocbagcaaDoorRdNum
import Derived.OwnWalk
namespace Go.Proofs.YtaalbjbocbagcaaDoor
open Go.RowKit
set_option maxRecDepth 100000 in
set_option maxHeartbeats 4000000 in
theorem next_any (F : Nat → Prop) (g size len : Nat) (l : List UInt8) (w : World) (hrd : Rd w F g l) (hF : ∀ b, F b → b ≠ g) (hs : size ≤ 4) (h1 : 0 < len) (h2 : len ≤ 2) (h3 : len ≤ size) :
    Calls Tryd.prog 37 #[.pointer (some ⟨g, 0, none⟩), .int .i64 size, .int .i64 len] w fun e w' => ∃ a b u, e = .returned (.tuple #[a, b, u]) ∧ ErrIs w' u (Pure.nextErr size len l) ∧ Keeps (only g) w w' ∧
      (Pure.nextErr size len l = 0 → Row w' F 1 a size (u8s (l.take size)) ∧ Row w' F 1 b (Pure.told size len l - size) (u8s ((l.drop size).take (Pure.told size len l - size))) ∧ Rd w' F g (l.drop (Pure.told size len l))) := by
  by_cases hls : l.length < size
  · have HE := Lib.hid (show Pure.nextErr size len l = 2 from if_pos hls)
    have HT := Lib.hid (take_short F g size l w hrd hls (by omega))
    clear hrd hF
    go_enter Tryd.func37, Tryd.ntmps37
    go_wp2_with fail
    refine HT.out.mono ?_
    rintro e w1 ⟨u, rfl, hu, hk⟩
    obtain ⟨b, rfl, hu2⟩ : ∃ b, u = .iface 73 (.pointer (some ⟨b, 0, none⟩)) ∧ ErrIs w1 u 2 := by
      rcases hu with ⟨_, h⟩ | ⟨h1, b, h2, h3⟩
      · cases h
      · exact ⟨b, h2, .inr ⟨h1, b, h2, h3⟩⟩
    have HU := Lib.hid hu2
    have HK := Lib.hid (hk.mono (T := only g) (fun i h => h.elim))
    clear hu hu2 hk HT
    go_wp2
    go_ret3
    exact ⟨_, _, _, rfl, by rw [HE.out]; exact HU.out, HK.out, fun h => absurd (HE.out.symm.trans h) (by omega)⟩
  · have HNE : ∀ k, Pure.nextErr size len l = k ↔ (if Pure.told size len l < size then 2 + 2 else if l.length < Pure.told size len l then 2 else 0) = k := fun k => by unfold Pure.nextErr; rw [if_neg hls]
    have HT := Lib.hid (take_ok F g size l w hrd hF (by omega))
    have HF := Lib.hid hF
    have hlt := Lib.hid (show Pure.told size len l < 65536 from Pure.num_lt _ (by rw [List.length_drop, List.length_take]; omega))
    obtain ⟨st, hst⟩ : ∃ st, st = Pure.told size len l := ⟨_, rfl⟩
    rw [← hst] at HNE hlt ⊢
    have HST := Lib.hid hst
    have HNE := Lib.hid HNE
    clear hst
    obtain ⟨q, hq⟩ : ∃ q, q = size - len := ⟨_, rfl⟩
    have eq : (size : Int) - (len : Int) = (q : Int) := by omega
    have q1 : (q : Int) ≤ (size : Int) := by omega
    have qz : size - q = len := by omega
    have QS := Lib.hid (show q + len ≤ size by omega)
    have HQ := Lib.hid hq
    clear hrd hF hq
    go_enter Tryd.func37, Tryd.ntmps37
    go_wp2_with fail
    refine HT.out.mono ?_
    rintro e w1 ⟨v, rfl, hv, hrd1, hk⟩
    obtain ⟨A, c, rfl, hc⟩ := hv.form
    have HV := Lib.hid hv
    have HRD := Lib.hid hrd1
    have HK := Lib.hid hk
    have qc : (q : Int) ≤ (c : Int) := by omega
    have htd : Pure.told size len l = Pure.num ((l.take size).drop q) := by rw [HQ.out]; rfl
    have HN := Lib.hid (show Calls Tryd.prog 45 #[cutV A c q len] w1 fun e w' => e = .returned (.int .i64 (st : Nat)) ∧ w1 = w' by
      have h := pnum_any F (cutV A c q len) len ((l.take size).drop q) w1 (by
        have h := hv.cutV q len (by omega)
        rwa [List.take_of_length_le (by rw [List.length_drop, List.length_take]; omega)] at h) (by rw [List.length_drop, List.length_take]; omega)
      rw [HST.out, htd]
      exact h)
    clear hv hrd1 hk HT htd
    have hst2 := hlt.out
    go_upto_region 4 with fail
    go_cut [9] (fun s wx => s = .int .i64 (st : Nat) ∧ w1 = wx)
    case first =>
      by_cases hcq : c = q
      · subst hcq
        unfold cutV at HN
        rw [if_pos rfl] at HN
        go_wp2_with fail
        refine HN.out.mono ?_
        rintro e w2 ⟨rfl, rfl⟩
        go_wp2
        go_meet
        exact ⟨rfl, rfl⟩
      · unfold cutV at HN
        rw [if_neg hcq] at HN
        go_wp2_with fail
        refine HN.out.mono ?_
        rintro e w2 ⟨rfl, rfl⟩
        go_wp2
        go_meet
        exact ⟨rfl, rfl⟩
    case rest =>
      obtain ⟨rfl, rfl⟩ := hcut
      clear HN
      by_cases h1 : st < size
      · have HE := Lib.hid ((HNE.out 4).2 (if_pos h1))
        have HO := Lib.hid (fun s => of_any s 4 w1 (by omega))
        have d0 : decide (st < size) = true := decide_eq_true h1
        clear HNE
        go_wp2_with fail
        refine (HO.out _).mono ?_
        rintro e w2 ⟨u, rfl, hu, hb⟩
        have HU := Lib.hid hu
        have HK2 := Lib.hid (HK.out.trans ((Keeps.new hb).mono (fun i h => h.elim)))
        clear hu hb HO
        go_wp2
        go_ret3
        exact ⟨_, _, _, rfl, by rw [HE.out]; exact HU.out, HK2.out, fun h => absurd (HE.out.symm.trans h) (by omega)⟩
      · have d0 : decide (st < size) = false := decide_eq_false h1
        obtain ⟨m, hm⟩ : ∃ m, m = st - size := ⟨_, rfl⟩
        have em : (st : Int) - (size : Int) = (m : Int) := by omega
        have em2 : st - size = m := hm.symm
        have hml : (m : Int) ≤ 65536 := by omega
        have HM := Lib.hid hm
        by_cases h2 : l.length < st
        · have HE := Lib.hid ((HNE.out 2).2 (by rw [if_neg h1, if_pos h2]))
          have HT2 := Lib.hid (take_short F g m (l.drop size) w1 HRD.out (by rw [List.length_drop]; omega) (by omega))
          clear HNE hm
          go_wp2_with fail
          refine HT2.out.mono ?_
          rintro e w2 ⟨u, rfl, hu, hk2⟩
          obtain ⟨b, rfl, hu2⟩ : ∃ b, u = .iface 73 (.pointer (some ⟨b, 0, none⟩)) ∧ ErrIs w2 u 2 := by
            rcases hu with ⟨_, h⟩ | ⟨h1, b, h2, h3⟩
            · cases h
            · exact ⟨b, h2, .inr ⟨h1, b, h2, h3⟩⟩
          have HU := Lib.hid hu2
          have HK2 := Lib.hid (HK.out.trans (hk2.mono (T := only g) (fun i h => h.elim)))
          clear hu hu2 hk2 HT2
          go_wp2
          go_ret3
          exact ⟨_, _, _, rfl, by rw [HE.out]; exact HU.out, HK2.out, fun h => absurd (HE.out.symm.trans h) (by omega)⟩
        · have HE := Lib.hid ((HNE.out 0).2 (by rw [if_neg h1, if_neg h2]))
          have HT2 := Lib.hid (take_ok F g m (l.drop size) w1 HRD.out HF.out (by rw [List.length_drop]; omega))
          have HDD := Lib.hid (show (l.drop size).drop m = l.drop st by rw [List.drop_drop]; congr 1; omega)
          clear HNE hm
          go_wp2_with fail
          refine HT2.out.mono ?_
          rintro e w2 ⟨v2, rfl, hv2, hrd2, hk2⟩
          obtain ⟨A2, c2, rfl, _⟩ := hv2.form
          have HV2 := Lib.hid hv2
          rw [HDD.out] at hrd2
          have HRD2 := Lib.hid hrd2
          have HK2 := Lib.hid (HK.out.trans hk2)
          have HVk := Lib.hid (HV.out.keeps hk2 HF.out)
          clear hv2 hrd2 hk2 HT2
          go_wp2
          go_ret3
          exact ⟨_, _, _, rfl, by rw [HE.out]; exact .inl ⟨rfl, rfl⟩, HK2.out, fun _ => ⟨HVk.out, by first | exact HV2.out | (rw [← HM.out]; exact HV2.out), HRD2.out⟩⟩
end Go.Proofs.YtaalbjbocbagcaaDoor
