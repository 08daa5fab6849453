/- The walk of the law StuffResets. -/
import Derived.Test.YtapcclahekkgpaaStuffK
import Derived.Test.YtapcclahekkgpaaLaw3C
namespace Go.Proofs.Ytapcclahekkgpaa
open Go.RowKit

set_option maxRecDepth 100000 in
set_option maxHeartbeats 4000000 in
theorem stuffResets_walk (a0 : Option Addr) (len0 cap0 : Nat) (z0 : List Int) (a1 : Option Addr) (len1 cap1 : Nat) (z1 : List Int) (a2 : Int) (w : World) (w0 : IsRow .u8 w a0 len0 cap0 z0) (w1 : IsRow .u8 w a1 len1 cap1 z1) (w2 : (Lit.int .u32 a2).wf = true) :
    Calls Try.prog 10 #[.slice a0 len0 cap0, .slice a1 len1 cap1, .int .u32 a2] w fun e w' => e = .returned (.bool true) ∧ Below w.heap.size w w' := by
  obtain ⟨bs, hbl, hr⟩ := w0.bytes
  obtain ⟨cs, hcl, hr'⟩ := w1.bytes
  obtain ⟨m, rfl⟩ : ∃ m : Nat, a2 = m := ⟨a2.toNat, by have := u32_of_wf w2; omega⟩
  have hm : m < 4294967296 := by have := u32_of_wf w2; omega
  rw [← hbl] at hr ⊢
  rw [← hcl] at hr' ⊢
  have hmax := hr.2.1
  have hmax' := hr'.2.1
  unfold maxLen at hmax hmax'
  have HR := Lib.hid hr
  have HC := Lib.hid hr'
  have HA := Lib.hid (awake_any w)
  clear hr hr' w0 w1 w2 hbl hcl
  go_enter Try.func10, Try.ntmps10
  go_wp2_with fail
  refine HA.out.mono ?_
  rintro e wa ⟨rfl, hba⟩
  have BA := Lib.hid hba
  clear hba HA
  by_cases hok : bs.length ≤ 500 ∧ cs.length ≤ 500
  · obtain ⟨o1, o2⟩ := hok
    have c1 : ¬ (bs.length : Int) > 500 := by omega
    have c2 : ¬ (cs.length : Int) > 500 := by omega
    have HN : Calls Try.prog 12 #[.int .u32 0, .int .i64 100] wa _ := new_any 0 100 wa (by omega) (by omega) (by omega)
    have HNN := Lib.hid HN
    clear HN
    go_wp2_with fail
    refine HNN.out.mono ?_
    rintro e wb ⟨rfl, hd1, hb1⟩
    have S1 := Lib.hid (Sit.new BA.out hd1 hb1)
    have HN : Calls Try.prog 12 #[.int .u32 m, .int .i64 100] wb _ := new_any m 100 wb (by omega) (by omega) (by omega)
    have HNN := Lib.hid HN
    obtain ⟨g, hg⟩ : ∃ g, g = wa.heap.size := ⟨_, rfl⟩
    rw [← hg] at S1 ⊢
    clear HN hd1 hb1 hg
    go_wp2_with fail
    refine HNN.out.mono ?_
    rintro e wc ⟨rfl, hd1, hb1⟩
    have T1 := Lib.hid (Two.new S1.out hd1 hb1)
    obtain ⟨f, hf⟩ : ∃ f, f = wb.heap.size := ⟨_, rfl⟩
    rw [← hf] at T1 ⊢
    have HF := Lib.hid (feed_any _ _ _ _ _ bs wc T1.out.s1.obj (T1.out.s1.row HR.out) (fun b hb => T1.out.s1.apart0 b hb) (by simp) (by omega))
    clear hd1 hb1 hf S1 HNN
    go_wp2_with fail
    refine HF.out.mono ?_
    rintro e wd ⟨x, cx, px, rfl, hpx, hat⟩
    obtain ⟨A7, c7, rfl⟩ := told_len hat.told
    have T2 := Lib.hid (T1.out.fed hat)
    have hn := Pure.DF.feed_near bs ⟨0, 100, [], false, 0⟩
    obtain ⟨n, hnn⟩ : ∃ n, n = ((⟨0, 100, [], false, 0⟩ : Pure.DF).feed bs).1.dropped := ⟨_, rfl⟩
    have hn1 : n ≤ 500 := by have := hn.hi; rw [hnn]; simp at this; omega
    have hmost : ((⟨0, 100, [], false, 0⟩ : Pure.DF).feed bs).1.most = 100 := hn.most
    have hdr := dropped_any _ _ _ wd T2.out.s1.obj
    rw [← hnn] at hdr
    have hrs := reset_any _ _ _ m wd T2.out.s1.obj hm
    rw [hmost, ← hnn] at hrs
    have HD := Lib.hid hdr
    have HRS := Lib.hid hrs
    clear hpx hat hn hnn hmost hdr hrs T1 HF c1 c2
    go_wp2_with (first
      | (go_at_call 16; refine HD.out.mono ?_; rintro e w' ⟨rfl, rfl⟩)
      | (go_at_call 21; refine stopHere ?_))
    unfold Hid
    refine HRS.out.mono ?_
    rintro e we ⟨rfl, hd2, hk2⟩
    have T3 := Lib.hid (T2.out.store hd2 hk2)
    have HF := Lib.hid (feed_any _ _ _ _ _ cs we T3.out.s1.obj (T3.out.s1.row HC.out) (fun b hb => T3.out.s1.apart0 b hb) (by simp; omega) (by omega))
    clear hd2 hk2 T2 HD HRS
    go_wp2_with fail
    refine HF.out.mono ?_
    rintro e wf ⟨y, cy, py, rfl, hpy, hat⟩
    obtain ⟨A8, c8, rfl⟩ := told_len hat.told
    have K4 := Lib.hid (T3.out.kept hat)
    have T4 := Lib.hid (T3.out.fed hat)
    have hmore := Pure.DF.feed_more n cs ⟨m, 100, [], false, 0⟩
    simp only [Nat.add_zero] at hmore
    have PY := Lib.hid (hpy.trans (congrArg Prod.snd hmore))
    have HM := Lib.hid (congrArg (fun p => p.1.dropped) hmore)
    have HF := Lib.hid (feed_any _ _ _ _ _ cs wf T4.out.s2.obj (T4.out.s2.row HC.out) (fun b hb => T4.out.s2.apart0 b hb) (by simp) (by omega))
    clear hpy hat hmore T3
    go_wp2_with fail
    refine HF.out.mono ?_
    rintro e wg ⟨z, cz, pz, rfl, hpz, hat⟩
    obtain ⟨A9, c9, rfl⟩ := told_len hat.told
    have K5 := Lib.hid (K4.out.fed hat)
    have T5 := Lib.hid (T4.out.symm.fed hat)
    have hn2 := Pure.DF.feed_near cs ⟨m, 100, [], false, 0⟩
    obtain ⟨r, hrr⟩ : ∃ r, r = ((⟨m, 100, [], false, 0⟩ : Pure.DF).feed cs).1.dropped := ⟨_, rfl⟩
    have hr1 : r ≤ 500 := by have := hn2.hi; rw [hrr]; simp at this; omega
    have FX := Lib.hid (frames_true _ _ _ _ py pz _ K5.out.told.frow hat.told.frow (by rw [PY.out, hpz]))
    have RR := Lib.hid hrr
    clear hpz hat hn2 hrr T4 K4
    go_wp2_with fail
    refine FX.out.mono ?_
    rintro e wk ⟨rfl, hk⟩
    have T6 := Lib.hid (T5.out.quiet hk)
    have hd1 := dropped_any _ _ _ wk T6.out.s1.obj
    have hd2 := dropped_any _ _ _ wk T6.out.s2.obj
    rw [← RR.out] at hd1
    rw [show (((⟨m, 100, [], false, n⟩ : Pure.DF).feed cs).1.dropped = n + r) from HM.out.trans (by rw [← RR.out])] at hd2
    have HD1 := Lib.hid hd1
    have HD2 := Lib.hid hd2
    clear hk FX T5 K5 hd1 hd2
    go_wp2_with fail
    refine HD2.out.mono ?_
    rintro e w' ⟨rfl, rfl⟩
    go_wp2_with fail
    refine HD1.out.mono ?_
    rintro e w' ⟨rfl, rfl⟩
    go_wp2
    go_ret
    exact ⟨by simp, T6.out.s1.below⟩
  · by_cases c1 : (bs.length : Int) > 500
    · go_wp2
      go_ret
      exact ⟨rfl, BA.out⟩
    · have c2 : (cs.length : Int) > 500 := by omega
      go_wp2
      go_ret
      exact ⟨rfl, BA.out⟩
end Go.Proofs.Ytapcclahekkgpaa
