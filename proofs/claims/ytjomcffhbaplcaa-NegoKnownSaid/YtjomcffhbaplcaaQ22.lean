/- The program's machine: start, perform, step. -/
import Derived.Test.YtjomcffhbaplcaaQ21
namespace Go.Proofs.Ytjomcffhbaplcaa
open Go.RowKit
theorem start_any (g : Nat) (m : Pure.Mach) (w : World) (hm : PMach w g m) : Calls Try.prog 86 #[.pointer (some ⟨g, 0, none⟩)] w fun r w' => r = .returned (.tuple #[]) ∧ w' = w.setCell ⟨g, 4, none⟩ (.int .i64 (m.timeout : Nat)) := by
  have c1 : w.cell? ⟨g, 1, none⟩ = some (.int .i64 (m.timeout : Nat)) := by rw [Blk.cell hm]; rfl
  have c4 : w.cell? ⟨g, 4, none⟩ = some (.int .i64 (m.left : Nat)) := by rw [Blk.cell hm]; rfl
  have f4 : w.frozen? ⟨g, 4, none⟩ = false := Blk.frozen hm 4
  clear hm
  go_enter Try.func86, Try.ntmps86
  go_wp2
  go_end0
  exact ⟨rfl, rfl⟩
theorem perform_any (g a : Nat) (m : Pure.Mach) (w : World) (hm : PMach w g m) (hc : m.count ≤ 1000) : Calls Try.prog 78 #[.pointer (some ⟨g, 0, none⟩), .int .i64 a] w fun r w' => r = .returned (.tuple #[]) ∧ PMach w' g (m.act a) ∧ Keeps (only g) w w' := by
  have c0 : w.cell? ⟨g, 0, none⟩ = some (.int .i64 (m.tries : Nat)) := by rw [Blk.cell hm]; rfl
  have c3 : w.cell? ⟨g, 3, none⟩ = some (.int .i64 (m.count : Nat)) := by rw [Blk.cell hm]; rfl
  have f3 : w.frozen? ⟨g, 3, none⟩ = false := Blk.frozen hm 3
  by_cases h4 : a = 4
  · subst h4
    have HM' := Lib.hid (show PMach (w.setCell ⟨g, 3, none⟩ (.int .i64 (m.tries : Nat))) g (m.act 4) from Blk.set hm 3 _)
    have HK' := Lib.hid ((Keeps.refl (only g) w).store g 3 (fun _ => rfl) (.int .i64 (m.tries : Nat)))
    clear hm hc
    go_enter Try.func78, Try.ntmps78
    go_wp2
    go_end0
    exact ⟨rfl, HM'.out, HK'.out⟩
  · have a4 : ((a : Int) == 4) = false := by rw [beq_eq_false_iff_ne]; omega
    by_cases h5 : a = 5
    · subst h5
      have hB1 : PMach (w.setCell ⟨g, 3, none⟩ (.int .i64 0)) g { m with count := 0 } := Blk.set hm 3 _
      have HM' := Lib.hid (show PMach ((w.setCell ⟨g, 3, none⟩ (.int .i64 0)).setCell ⟨g, 4, none⟩ (.int .i64 (m.timeout : Nat))) g (m.act 5) from Blk.set hB1 4 _)
      have HK' := Lib.hid (((Keeps.refl (only g) w).store g 3 (fun _ => rfl) (.int .i64 0)).store g 4 (fun _ => rfl) (.int .i64 (m.timeout : Nat)))
      have HS := Lib.hid (start_any g _ _ hB1)
      clear hB1 a4 hm hc h4
      go_enter Try.func78, Try.ntmps78
      go_wp2_with fail
      refine HS.out.mono ?_
      rintro r w1 ⟨rfl, rfl⟩
      go_wp2
      go_end0
      exact ⟨rfl, HM'.out, HK'.out⟩
    · have a5 : ((a : Int) == 5) = false := by rw [beq_eq_false_iff_ne]; omega
      by_cases h6 : a = 6 ∨ a = 9
      · have hB1 : PMach (w.setCell ⟨g, 3, none⟩ (.int .i64 ((m.count - 1 : Nat) : Int))) g { m with count := m.count - 1 } := Blk.set hm 3 _
        have HM' := Lib.hid (show PMach ((w.setCell ⟨g, 3, none⟩ (.int .i64 ((m.count - 1 : Nat) : Int))).setCell ⟨g, 4, none⟩ (.int .i64 (m.timeout : Nat))) g (m.act a) by
          rw [show m.act a = { m with count := m.count - 1, left := m.timeout } by rcases h6 with rfl | rfl <;> rfl]
          exact Blk.set hB1 4 _)
        have HK' := Lib.hid (((Keeps.refl (only g) w).store g 3 (fun _ => rfl) (.int .i64 ((m.count - 1 : Nat) : Int))).store g 4 (fun _ => rfl) (.int .i64 (m.timeout : Nat)))
        have HS := Lib.hid (start_any g _ _ hB1)
        clear hB1 hm
        by_cases hc0 : m.count = 0
        · rw [hc0] at c3 HM' HK' HS
          have c3 : w.cell? ⟨g, 3, none⟩ = some (.int .i64 0) := c3
          clear hc0 hc
          rcases h6 with rfl | rfl
          all_goals
            go_enter Try.func78, Try.ntmps78
            go_wp2_with fail
            refine HS.out.mono ?_
            rintro r w1 ⟨rfl, rfl⟩
            go_wp2
            go_end0
            exact ⟨rfl, HM'.out, HK'.out⟩
        · obtain ⟨z, hz⟩ : ∃ z, m.count = z + 1 := ⟨m.count - 1, by omega⟩
          have hz1 : m.count - 1 = z := by omega
          rw [hz1] at HM' HK' HS
          rw [hz] at c3
          have e1 : ((z + 1 : Nat) : Int) - 1 = (z : Int) := by omega
          have lw : wrap64 (z : Int) = (z : Int) := IntWalk.wrap64_in _ (by omega)
          clear hc0 hz1
          rcases h6 with rfl | rfl
          all_goals
            go_enter Try.func78, Try.ntmps78
            go_wp2_with fail
            refine HS.out.mono ?_
            rintro r w1 ⟨rfl, rfl⟩
            go_wp2
            go_end0
            exact ⟨rfl, HM'.out, HK'.out⟩
      · have ha : m.act a = m := act_other m a h4 h5 (fun h => h6 (.inl h)) (fun h => h6 (.inr h))
        have a6 : ((a : Int) == 6) = false := by rw [beq_eq_false_iff_ne]; omega
        have a9 : ((a : Int) == 9) = false := by rw [beq_eq_false_iff_ne]; omega
        have HM' := Lib.hid (show PMach w g (m.act a) by rw [ha]; exact hm)
        clear ha hm h4 h5 h6
        go_enter Try.func78, Try.ntmps78
        go_wp2
        go_end0
        exact ⟨rfl, HM'.out, Keeps.refl _ _⟩

theorem prog_mstep_any (g n : Nat) (e : Int) (l : List Nat) (m : Pure.Mach) (w : World) (hm : PMach w g m) (hn : n ≤ 9) (hl : Pure.fsmStep m.state e = (l, (n : Int))) (hc : m.count ≤ m.tries) (ht : m.tries ≤ 1000) :
    Calls Try.prog 70 #[.pointer (some ⟨g, 0, none⟩), .int .i64 e] w fun r w' => ∃ A c, r = .returned (.slice A l.length c) ∧ Row w' (fun b => w.heap.size ≤ b) 1 (.slice A l.length c) l.length (ints l) ∧ PMach w' g ((l.foldl Pure.Mach.act { m with state := n }).rest) ∧ Keeps (only g) w w' := by
  have hgl : g < w.heap.size := hm.lt
  have HS0 := prog_step_any m.state e w
  rw [hl] at HS0
  have HS := Lib.hid HS0
  have HM := Lib.hid hm
  have c2 : w.cell? ⟨g, 2, none⟩ = some (.int .i64 (m.state : Nat)) := by rw [Blk.cell hm]; rfl
  obtain ⟨M', hM'⟩ : ∃ M', M' = (l.foldl Pure.Mach.act { m with state := n }).rest := ⟨_, rfl⟩
  rw [← hM']
  have HST := Lib.hid hM'
  clear hl hm HS0 hM'
  go_enter Try.func70, Try.ntmps70
  go_wp2_with fail
  refine HS.out.mono ?_
  rintro r w2 ⟨A, c, rfl, hu, hb⟩
  have hk2 := Keeps.new hb
  have hm2 := HM.out.keeps hk2 (fun h => h)
  have f0 := Blk.frozen hm2 2
  have d0 : w2.cell? ⟨g, 2, none⟩ = some (.int .i64 (m.state : Nat)) := by rw [Blk.cell hm2]; rfl
  have HU := Lib.hid hu
  have HK2 := Lib.hid hk2
  have HM2 := Lib.hid (show PMach (w2.setCell ⟨g, 2, none⟩ (.int .i64 (n : Nat))) g { m with state := n } from Blk.set hm2 2 _)
  clear hu hb hk2 hm2 HS HM c2
  go_upto_region 3 with fail
  generalize hw3 : w2.setCell _ _ = w3 at HM2 ⊢
  have hk3 : Keeps (only g) w2 w3 := by rw [← hw3]; exact (Keeps.refl (only g) w2).store g 2 (fun _ => rfl) _
  have hug : ∀ b, w.heap.size ≤ b → ¬ only g b := fun b hb h => by have h2 : b = g := h; omega
  have HU3 := Lib.hid (HU.out.keeps hk3 hug)
  have HK3 := Lib.hid ((HK2.out.mono (T := only g) (fun i h => h.elim)).trans hk3)
  have HUG := Lib.hid hug
  clear hw3 hk3 HU HK2 f0 d0 hug
  obtain ⟨M0, hM0⟩ : ∃ M0 : Pure.Mach, M0 = { m with state := n } := ⟨_, rfl⟩
  rw [← hM0] at HM2 HST
  have HM0 := Lib.hid (show M0.state = n ∧ M0.count ≤ M0.tries ∧ M0.tries ≤ 1000 by rw [hM0]; exact ⟨rfl, hc, ht⟩)
  clear hc ht
  clear hM0
  go_wp2_with fail
  go_loopw [24] (fun i wr => ∃ k : Nat, k ≤ l.length ∧ i = .int .i64 (k : Int) ∧ PMach wr g ((l.take k).foldl Pure.Mach.act M0) ∧ Keeps (only g) w3 wr) (fun i _ => l.length - (intOf i).toNat)
  case atStart => exact ⟨0, by omega, rfl, HM2.out, Keeps.refl _ _⟩
  case round =>
    obtain ⟨k, hk, rfl, hM, hK⟩ := hrel
    obtain ⟨M, hMd⟩ : ∃ M, M = (l.take k).foldl Pure.Mach.act M0 := ⟨_, rfl⟩
    rw [← hMd] at hM
    have HMW := Lib.hid hM
    have HKW := Lib.hid hK
    have hml : l.length ≤ maxLen := HU3.out.2.1
    unfold maxLen at hml
    by_cases hkl : k < l.length
    · have d0 : decide ((k : Int) < (l.length : Int)) = true := decide_eq_true (by omega)
      have d1 : decide (k < l.length) = true := decide_eq_true hkl
      have k0 : (0 : Int) ≤ (k : Int) := by omega
      have k1 : (k : Int) < (l.length : Int) := by omega
      obtain ⟨b, off, rfl, hFb, hcell⟩ := (HU3.out.keeps hK HUG.out).ints_at k hkl
      obtain ⟨a, ha⟩ : ∃ a, a = l.getD k 0 := ⟨_, rfl⟩
      rw [← ha] at hcell
      have HTk := Lib.hid (show (l.take (k + 1)).foldl Pure.Mach.act M0 = M.act a by rw [take_snoc l 0 k hkl, List.foldl_append, ← hMd, ← ha]; rfl)
      have HP := Lib.hid (perform_any g a M wr hM (by
        obtain ⟨_, k2, _, k4, _⟩ := Pure.act_keeps (l.take k) M0
        have h1 := k4 HM0.out.2.1
        rw [← hMd] at h1
        have := HM0.out.2.2
        omega))
      clear hM hK hMd ha hFb
      go_wp2_with fail
      refine HP.out.mono ?_
      rintro r w5 ⟨rfl, hm5, hk5⟩
      have HM5 := Lib.hid hm5
      have HK5 := Lib.hid (HKW.out.trans hk5)
      clear hm5 hk5 hcell
      go_wp2_with fail
      go_roundw
      case rel => exact ⟨k + 1, by omega, by go_num, by rw [HTk.out]; exact HM5.out, HK5.out⟩
      case measure => simp [intOf]; omega
    · have hkk : k = l.length := by omega
      subst hkk
      have d0 : decide ((l.length : Int) < (l.length : Int)) = false := decide_eq_false (by omega)
      have d1 : decide (l.length < l.length) = false := decide_eq_false (by omega)
      rw [List.take_length] at hMd
      have hst : M.state = n := by rw [hMd, (Pure.act_keeps l M0).1]; exact HM0.out.1
      have HST' := Lib.hid (show M' = M.rest by rw [HST.out, hMd])
      have hg4 : wr.cell? ⟨g, 4, none⟩ = some (.int .i64 (M.left : Nat)) := by rw [Blk.cell hM]; rfl
      have y4 := Blk.frozen hM 4
      have HU4 := Lib.hid (HU3.out.keeps hK HUG.out)
      have HKE := Lib.hid (HK3.out.trans hK)
      have HSn := Lib.hid hst
      have HT := timed_any n wr
      clear hM hK hMd hst HU3 hkl hk HM2 HM0 HST
      by_cases hr : n < 4 ∨ n = 9
      · have HR := Lib.hid (show M.rest = { M with left := 0 } by unfold Pure.Mach.rest; rw [HSn.out, if_pos hr])
        have HM' := Lib.hid (show PMach (wr.setCell ⟨g, 4, none⟩ (.int .i64 0)) g M.rest by rw [HR.out]; exact Blk.set HMW.out 4 _)
        have HK' := Lib.hid (HKE.out.store g 4 (fun _ => rfl) (.int .i64 0))
        have HO' := Lib.hid (HU4.out.keeps ((Keeps.refl (only g) wr).store g 4 (fun _ => rfl) (.int .i64 0)) HUG.out)
        rw [decide_eq_false (show ¬ (4 ≤ (n : Int) ∧ (n : Int) ≤ 8) by omega)] at HT
        have HT := Lib.hid HT
        clear hr
        go_wp2_with fail
        refine HT.out.mono ?_
        rintro r w5 ⟨rfl, rfl⟩
        go_wp2
        go_ret
        exact ⟨_, _, rfl, HO'.out, by rw [HST'.out]; exact HM'.out, HK'.out⟩
      · have HR := Lib.hid (show M.rest = M by unfold Pure.Mach.rest; rw [HSn.out, if_neg hr])
        rw [decide_eq_true (show 4 ≤ (n : Int) ∧ (n : Int) ≤ 8 by omega)] at HT
        have HT := Lib.hid HT
        clear hr
        go_wp2_with fail
        refine HT.out.mono ?_
        rintro r w5 ⟨rfl, rfl⟩
        go_wp2
        go_ret
        exact ⟨_, _, rfl, HU4.out, by rw [HST'.out, HR.out]; exact HMW.out, HKE.out⟩
end Go.Proofs.Ytjomcffhbaplcaa
/- The program's machine: Do, Tick. -/
namespace Go.Proofs.Ytjomcffhbaplcaa
open Go.RowKit
namespace Pure
theorem rest_good {m : Mach} (h : m.Good) : ({ m with state := m.state } : Mach).rest = m := by
  unfold Mach.rest
  split
  · rename_i hr
    have := h.rest hr
    cases m
    simp at this ⊢
    exact this.symm
  · rfl
end Pure
theorem prog_event (g e : Nat) (m : Pure.Mach) (w : World) (hm : PMach w g m) (hs : m.state ≤ 9) (he : e < 16) (hc : m.count ≤ m.tries) (ht : m.tries ≤ 1000) :
    Calls Try.prog 70 #[.pointer (some ⟨g, 0, none⟩), .int .i64 e] w fun r w' => ∃ A c, r = .returned (.slice A (m.step e).1.length c) ∧ Row w' (fun b => w.heap.size ≤ b) 1 (.slice A (m.step e).1.length c) (m.step e).1.length (ints (m.step e).1) ∧ PMach w' g (m.step e).2 ∧ Keeps (only g) w w' :=
  prog_mstep_any g (Pure.fsmAt m.state e).2 e (Pure.fsmAt m.state e).1 m w hm (Pure.fsmAt_le m.state (by omega) e he).1 (fsmStep_in m.state e (by omega) he) hc ht
theorem prog_other (g : Nat) (e : Int) (m : Pure.Mach) (w : World) (hm : PMach w g m) (hg : m.Good) (he : ¬ (0 ≤ e ∧ e < 16)) (ht : m.tries ≤ 1000) :
    Calls Try.prog 70 #[.pointer (some ⟨g, 0, none⟩), .int .i64 e] w fun r w' => ∃ A c, r = .returned (.slice A ([] : List Nat).length c) ∧ Row w' (fun b => w.heap.size ≤ b) 1 (.slice A ([] : List Nat).length c) ([] : List Nat).length (ints []) ∧ PMach w' g m ∧ Keeps (only g) w w' := by
  have := prog_mstep_any g m.state e [] m w hm hg.state (fsmStep_out (by omega)) hg.count ht
  rw [List.foldl_nil, Pure.rest_good hg] at this
  exact this
theorem prog_do_any (g : Nat) (e : Int) (m : Pure.Mach) (w : World) (hm : PMach w g m) (hg : m.Good) (ht : m.tries ≤ 1000) :
    Calls Try.prog 47 #[.pointer (some ⟨g, 0, none⟩), .int .i64 e] w fun r w' => ∃ A c, r = .returned (.slice A (m.act2 e).1.length c) ∧ Row w' (fun b => w.heap.size ≤ b) 1 (.slice A (m.act2 e).1.length c) (m.act2 e).1.length (ints (m.act2 e).1) ∧ PMach w' g (m.act2 e).2 ∧ Keeps (only g) w w' := by
  have HMD := Lib.hid (made_any g m w hm hg.tries)
  by_cases h45 : e = 4 ∨ e = 5
  · have hA : m.act2 e = ([], m) := by rcases h45 with rfl | rfl <;> rfl
    rw [hA]
    have HM := Lib.hid hm
    clear hA hm hg ht
    rcases h45 with rfl | rfl
    all_goals
      go_enter Try.func47, Try.ntmps47
      go_wp2_with fail
      refine HMD.out.mono ?_
      rintro r w1 ⟨rfl, rfl⟩
      go_wp2
      go_ret
      exact ⟨_, _, rfl, Row.nil _ _ _, HM.out, Keeps.refl _ _⟩
  · have q4 : (e == 4) = false := by rw [beq_eq_false_iff_ne]; omega
    have q5 : (e == 5) = false := by rw [beq_eq_false_iff_ne]; omega
    have HS : ∃ l M', m.act2 e = (l, M') ∧ Calls Try.prog 70 #[.pointer (some ⟨g, 0, none⟩), .int .i64 e] w fun r w' => ∃ A c, r = .returned (.slice A l.length c) ∧ Row w' (fun b => w.heap.size ≤ b) 1 (.slice A l.length c) l.length (ints l) ∧ PMach w' g M' ∧ Keeps (only g) w w' := by
      by_cases he : 0 ≤ e ∧ e < 16
      · obtain ⟨n, rfl⟩ : ∃ n : Nat, e = (n : Int) := ⟨e.toNat, by omega⟩
        exact ⟨_, _, Pure.act2_step (show Pure.does (n : Int) by unfold Pure.does; omega) m, prog_event g n m w hm hg.state (by omega) hg.count ht⟩
      · exact ⟨[], m, if_neg (show ¬ Pure.does e by unfold Pure.does; omega), prog_other g e m w hm hg he ht⟩
    obtain ⟨l, M', hA, HS⟩ := HS
    rw [hA]
    have HS := Lib.hid HS
    clear hA hm hg ht h45
    go_enter Try.func47, Try.ntmps47
    go_wp2_with fail
    refine HMD.out.mono ?_
    rintro r w1 ⟨rfl, rfl⟩
    go_wp2_with fail
    refine HS.out.mono ?_
    rintro r w2 ⟨A, c, rfl, hu, hm2, hk⟩
    have HU := Lib.hid hu
    have HM := Lib.hid hm2
    have HK := Lib.hid hk
    clear hu hm2 hk HS
    go_wp2
    go_ret
    exact ⟨A, c, rfl, HU.out, HM.out, HK.out⟩
end Go.Proofs.Ytjomcffhbaplcaa
