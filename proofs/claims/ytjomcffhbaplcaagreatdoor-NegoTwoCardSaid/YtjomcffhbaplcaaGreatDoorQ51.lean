/- Chapter 13's statements: NegoTwo. -/
import Derived.Test.YtjomcffhbaplcaaGreatDoorQ50
import Derived.Test.YtjomcffhbaplcaaGreatDoorQ4
namespace Go.Proofs.YtjomcffhbaplcaaGreatDoor
open Go.RowKit
/-- How far both are, in the main loop's round k, seen from number i. -/
def QSit (w0 w : World) (g mb i k gx : Nat) (mx : GM) (gy : Nat) (my : GM) (a b : List Pure.Opt) : Prop :=
  ∃ Vm Vo p q, NPair w0 w g mb i Vm Vo (Pure.queue a b p q) (Pure.queue b a q p) gx mx gy my (Pure.stage 10 50 a b p) (Pure.stage 10 50 b a q) ∧ p + q = k ∧ p ≤ 2 ∧ q ≤ 2 ∧ (p ≠ 0 ∨ q < 2) ∧ (q ≠ 0 ∨ p < 2)
theorem QSit.swap {w0 w : World} {g mb i k gx gy : Nat} {mx my : GM} {a b : List Pure.Opt} (h : QSit w0 w g mb i k gx mx gy my a b) : QSit w0 w g mb (1 - i) k gy my gx mx b a := by
  obtain ⟨Vm, Vo, p, q, h1, h2, h3, h4, h5, h6⟩ := h
  exact ⟨Vo, Vm, q, p, h1.swap, by omega, h4, h3, h6, h5⟩
theorem QSit.quiet {w0 w w' : World} {g mb i k gx gy : Nat} {mx my : GM} {a b : List Pure.Opt} (h : QSit w0 w g mb i k gx mx gy my a b) (K : Keeps nobody w w') : QSit w0 w' g mb i k gx mx gy my a b := by
  obtain ⟨Vm, Vo, p, q, h1, r⟩ := h
  exact ⟨Vm, Vo, p, q, h1.quiet K, r⟩
theorem queue_len (a b : List Pure.Opt) (p q : Nat) : (Pure.queue a b p q).length ≤ 2 := by
  unfold Pure.queue
  split <;> split <;> simp
theorem queue_empty (a b : List Pure.Opt) (p q : Nat) (hp : p ≤ 2) (hq : q ≤ 2) (h1 : p ≠ 0 ∨ q < 2) (h2 : q ≠ 0 ∨ p < 2) (e1 : (Pure.queue a b p q).length = 0) (e2 : (Pure.queue b a q p).length = 0) : p = 2 ∧ q = 2 := by
  obtain rfl | rfl | rfl : p = 0 ∨ p = 1 ∨ p = 2 := by omega
  all_goals (obtain rfl | rfl | rfl : q = 0 ∨ q = 1 ∨ q = 2 := by omega)
  all_goals (simp [Pure.queue] at e1 e2 h1 h2 ⊢)
theorem queue_more (a b : List Pure.Opt) (p q n m : Nat) (hp : p ≤ 2) (hq : q ≤ 2) (hn : n = (Pure.queue a b p q).length) (hm : m = (Pure.queue b a q p).length) (h : 0 < n + m) : p + q < 4 := by
  by_cases h4 : p = 2 ∧ q = 2
  · obtain ⟨rfl, rfl⟩ := h4
    subst hn hm
    simp [Pure.queue] at h
  · omega
theorem stage_tame (a b : List Pure.Opt) (p k : Nat) : Pure.Tame k (Pure.stage 10 50 a b p) := by
  unfold Pure.stage
  split
  · exact ⟨Nat.zero_le _, Nat.zero_le _, all_short⟩
  · split
    · exact ⟨Nat.zero_le _, Nat.zero_le _, all_short⟩
    · exact ⟨Nat.zero_le _, Nat.zero_le _, all_short⟩
/-- One of them, number i, has something to hear; what then holds of both. -/
def QSitN (w0 w : World) (g mb i k : Nat) (N : World → Prop) : Prop :=
  ∃ Vm Vo p t lo hx hm ox om Mm Mo n' o, NPair w0 w g mb i Vm Vo (p :: t) lo hx hm ox om Mm Mo ∧ Pure.Tame k Mm ∧ lo.length ≤ 1000 ∧ Mm.input p = (n', o) ∧ ∀ W Vm' Vo', NPair w0 W g mb i Vm' Vo' t (lo ++ o.send) hx hm ox om n' Mo → N W
theorem QSit.hear {w0 w : World} {g mb i k gx gy : Nat} {mx my : GM} {a b : List Pure.Opt} (ha : Pure.Fine a) (hb : Pure.Fine b) (_ : Pure.Apart a) (db : Pure.Apart b) {Vm Vo : Value} {p q : Nat} (h1 : NPair w0 w g mb i Vm Vo (Pure.queue a b p q) (Pure.queue b a q p) gx mx gy my (Pure.stage 10 50 a b p) (Pure.stage 10 50 b a q)) (h2 : p + q = k) (h3 : p ≤ 2) (h4 : q ≤ 2) (h5 : p ≠ 0 ∨ q < 2) (h6 : q ≠ 0 ∨ p < 2) (hn : (Pure.queue a b p q).length ≠ 0) :
    QSitN w0 w g mb i k (fun W => QSit w0 W g mb i (k + 1) gx mx gy my a b) := by
  obtain ⟨x, t, e⟩ : ∃ x t, Pure.queue a b p q = x :: t := by
    cases hq : Pure.queue a b p q with
    | nil => rw [hq] at hn; exact absurd rfl hn
    | cons x t => exact ⟨x, t, rfl⟩
  have hlo := queue_len b a q p
  rw [e] at h1
  rcases Pure.queue_step a b p q h3 h4 h5 x t e with ⟨rfl, rfl, ht, hq⟩ | ⟨rfl, rfl, hq1, ht, hq⟩
  · refine ⟨Vm, Vo, _, t, _, gx, mx, gy, my, _, _, _, _, h1, stage_tame _ _ _ _, by omega, Pure.stage_first (by decide) hb db, fun W Vm' Vo' hW => ⟨Vm', Vo', 1, q, ?_, by omega, by omega, h4, by omega, by omega⟩⟩
    rw [ht, hq]
    exact hW
  · refine ⟨Vm, Vo, _, t, _, gx, mx, gy, my, _, _, _, _, h1, stage_tame _ _ _ _, by omega, Pure.stage_second ha, fun W Vm' Vo' hW => ⟨Vm', Vo', 2, q, ?_, by omega, by omega, h4, by omega, by omega⟩⟩
    rw [ht, hq]
    rw [List.append_nil] at hW
    exact hW
theorem QSit.pick {w0 w : World} {g mb j k gx gy : Nat} {mx my : GM} {a b : List Pure.Opt} (ha : Pure.Fine a) (hb : Pure.Fine b) (da : Pure.Apart a) (db : Pure.Apart b) (h : QSit w0 w g mb 0 k gx mx gy my a b) (hk : k < 4) (hj : j ≤ 1) :
    ∃ A n c, w.cell? ⟨g, j, none⟩ = some (.slice A n c) ∧ n ≤ 1000 ∧ (n = 0 → QSitN w0 w g mb (1 - j) k (fun W => QSit w0 W g mb 0 (k + 1) gx mx gy my a b)) ∧ (n ≠ 0 → QSitN w0 w g mb j k (fun W => QSit w0 W g mb 0 (k + 1) gx mx gy my a b)) := by
  obtain ⟨V0, V1, p, q, h1, h2, h3, h4, h5, h6⟩ := h
  obtain ⟨A0, z0, e0⟩ := h1.form
  obtain ⟨A1, z1, e1⟩ := h1.swap.form
  have l0 := queue_len a b p q
  have l1 := queue_len b a q p
  have hx : (Pure.queue a b p q).length ≠ 0 → QSitN w0 w g mb 0 k (fun W => QSit w0 W g mb 0 (k + 1) gx mx gy my a b) := fun hn => QSit.hear ha hb da db h1 h2 h3 h4 h5 h6 hn
  have hy : (Pure.queue b a q p).length ≠ 0 → QSitN w0 w g mb 1 k (fun W => QSit w0 W g mb 0 (k + 1) gx mx gy my a b) := fun hn => by
    obtain ⟨Vm, Vo, p', t, lo, x1, x2, x3, x4, Mm, Mo, n', o, y1, y2, y3, y4, y5⟩ := QSit.hear (k := k) hb ha db da h1.swap (by omega) h4 h3 h6 h5 hn
    exact ⟨Vm, Vo, p', t, lo, x1, x2, x3, x4, Mm, Mo, n', o, y1, y2, y3, y4, fun W Vm' Vo' hW => (y5 W Vm' Vo' hW).swap⟩
  have hno : ¬ ((Pure.queue a b p q).length = 0 ∧ (Pure.queue b a q p).length = 0) := fun h => by
    have := queue_empty a b p q h3 h4 h5 h6 h.1 h.2
    omega
  obtain rfl | rfl : j = 0 ∨ j = 1 := by omega
  · exact ⟨A0, _, z0, by rw [← e0]; exact h1.mine, by omega, fun hn => hy (fun h => hno ⟨hn, h⟩), hx⟩
  · exact ⟨A1, _, z1, by rw [← e1]; exact h1.other, by omega, fun hn => hx (fun h => hno ⟨h, hn⟩), hy⟩
theorem measure_up13 {k m : Nat} (h : k < m) : m - (intOf (.int .i64 ((k : Int) + 1))).toNat < m - (intOf (.int .i64 (k : Int))).toNat := by
  show m - ((k : Int) + 1).toNat < m - ((k : Int)).toNat
  omega
set_option maxRecDepth 100000 in
set_option maxHeartbeats 8000000 in
theorem negoTwo_walk' (x y o : Value) (zs ns : List (Value × Pure.Opt)) (bs : List UInt8) (w : World) (env : Env13 w) (hx : ORow w (fun b => b < w.heap.size) x zs) (hy : ORow w (fun b => b < w.heap.size) y ns) (ho : Row w (fun b => b < w.heap.size) 1 o bs.length (u8s bs)) :
    Calls Tryz.prog 3 #[x, y, o] w fun e w' => e = .returned (.bool true) ∧ Below w.heap.size w w' := by
  obtain ⟨X, cx, rfl, _⟩ := hx.form
  obtain ⟨Y, cy, rfl, _⟩ := hy.form
  obtain ⟨OO, co0, rfl, _⟩ := ho.form
  have HX := Lib.hid hx
  have HY := Lib.hid hy
  have HO := Lib.hid ho
  have HENV := Lib.hid env
  have HAW := Lib.hid (awake_any w)
  obtain ⟨on, hon⟩ : ∃ q, q = bs.length := ⟨_, rfl⟩
  have HON := Lib.hid hon
  rw [← hon] at HO ⊢
  clear hx hy ho env hon
  go_enter Tryz.func3, Tryz.ntmps3
  go_wp2_with fail
  refine HAW.out.mono ?_
  rintro e w1 ⟨rfl, hk1⟩
  have HK1 := Lib.hid hk1
  clear hk1 HAW
  have hc2 := small_any _ _ zs w1 (HX.out.keeps HK1.out (fun _ _ h => h))
  obtain ⟨S2, hS2⟩ : ∃ S, S = decide (smallOpts (optsOf zs)) := ⟨_, rfl⟩
  rw [← hS2] at hc2
  have HC2 := Lib.hid hc2
  have HS2 := Lib.hid hS2
  clear hc2 hS2
  go_wp2_with fail
  refine HC2.out.mono ?_
  rintro e w2 ⟨rfl, hw2⟩
  have HK2 := Lib.hid (show Keeps nobody w w2 by rw [hw2]; exact HK1.out)
  clear hw2
  clear HC2
  cases S2
  · go_wp2_with fail
    go_ret
    exact ⟨rfl, HK2.out.to_below⟩
  have H2 := Lib.hid (show smallOpts (optsOf zs) from of_decide_eq_true HS2.out.symm)
  clear HS2
  have hc3 := small_any _ _ ns w2 (HY.out.keeps HK2.out (fun _ _ h => h))
  obtain ⟨S3, hS3⟩ : ∃ S, S = decide (smallOpts (optsOf ns)) := ⟨_, rfl⟩
  rw [← hS3] at hc3
  have HC3 := Lib.hid hc3
  have HS3 := Lib.hid hS3
  clear hc3 hS3
  go_wp2_with fail
  refine HC3.out.mono ?_
  rintro e w3 ⟨rfl, hw3⟩
  have HK3 := Lib.hid (show Keeps nobody w w3 by rw [hw3]; exact HK2.out)
  clear hw3
  clear HC3
  cases S3
  · go_wp2_with fail
    go_ret
    exact ⟨rfl, HK3.out.to_below⟩
  have H3 := Lib.hid (show smallOpts (optsOf ns) from of_decide_eq_true HS3.out.symm)
  clear HS3
  by_cases hol : 100 < on
  · have d1 : decide ((100 : Int) < (on : Int)) = true := decide_eq_true (by omega)
    have d2 : decide (100 < on) = true := decide_eq_true hol
    go_wp2_with fail
    go_ret
    exact ⟨rfl, HK3.out.to_below⟩
  have d1 : decide ((100 : Int) < (on : Int)) = false := decide_eq_false (by omega)
  have d2 : decide (100 < on) = false := decide_eq_false hol
  have HOL := Lib.hid hol
  clear hol
  have hc4 := apart_any _ _ zs w3 (HX.out.keeps HK3.out (fun _ _ h => h))
  obtain ⟨S4, hS4⟩ : ∃ S, S = decide (Pure.Apart (optsOf zs)) := ⟨_, rfl⟩
  rw [← hS4] at hc4
  have HC4 := Lib.hid hc4
  have HS4 := Lib.hid hS4
  clear hc4 hS4
  go_wp2_with fail
  refine HC4.out.mono ?_
  rintro e w4 ⟨rfl, nd4, hw4⟩
  have HK4 := Lib.hid (HK3.out.trans (Keeps.of_drewN hw4))
  clear hw4
  clear HC4
  cases S4
  · go_wp2_with fail
    go_ret
    exact ⟨rfl, HK4.out.to_below⟩
  have H4 := Lib.hid (show Pure.Apart (optsOf zs) from of_decide_eq_true HS4.out.symm)
  clear HS4
  have hc5 := apart_any _ _ ns w4 (HY.out.keeps HK4.out (fun _ _ h => h))
  obtain ⟨S5, hS5⟩ : ∃ S, S = decide (Pure.Apart (optsOf ns)) := ⟨_, rfl⟩
  rw [← hS5] at hc5
  have HC5 := Lib.hid hc5
  have HS5 := Lib.hid hS5
  clear hc5 hS5
  go_wp2_with fail
  refine HC5.out.mono ?_
  rintro e w5 ⟨rfl, nd5, hw5⟩
  have HK5 := Lib.hid (HK4.out.trans (Keeps.of_drewN hw5))
  clear hw5
  clear HC5
  cases S5
  · go_wp2_with fail
    go_ret
    exact ⟨rfl, HK5.out.to_below⟩
  have H5 := Lib.hid (show Pure.Apart (optsOf ns) from of_decide_eq_true HS5.out.symm)
  clear HS5
  clear d1 d2
  go_wp2_with fail
  obtain ⟨lx, hlx⟩ : ∃ q, q = zs.length := ⟨_, rfl⟩
  obtain ⟨ly, hly⟩ : ∃ q, q = ns.length := ⟨_, rfl⟩
  rw [← hlx, ← hly]
  have HLX := Lib.hid hlx
  have HLY := Lib.hid hly
  clear hlx hly
  go_loopw [7, 8] (fun v i wr => ∃ k : Nat, k ≤ 256 ∧ i = .int .i64 (k : Int) ∧ RAny w5 wr v ((List.range k).map fun t => ((t : Nat) : Int)) ∧ Keeps nobody w5 wr) (fun _ i _ => 256 - (intOf i).toNat)
  case atStart => exact ⟨0, by omega, rfl, RAny.nil _, Keeps.refl _ _⟩
  case round =>
    obtain ⟨k, hk, rfl, hr, hkw⟩ := hrel
    obtain ⟨A6, c6, hv⟩ := hr.form
    obtain ⟨ts, hts⟩ : ∃ ts, ts = (List.range k).map fun t => ((t : Nat) : Int) := ⟨_, rfl⟩
    have hl : ts.length = k := by rw [hts]; simp
    rw [← hts, hl] at hv
    rw [← hts] at hr
    subst hv
    have HR := Lib.hid hr
    have HKW := Lib.hid hkw
    have HTS := Lib.hid hts
    have HL := Lib.hid hl
    clear hr hkw hts hl
    by_cases hkl : k < 256
    · have d1 : decide ((k : Int) < 256) = true := decide_eq_true (by omega)
      have d2 : decide (k < 256) = true := decide_eq_true hkl
      go_wp2_with (at_builtin; refine stopHere ?_)
      unfold Hid
      have hql : (anyRow ts).length = k := by rw [List.length_map]; exact HL.out
      refine wp_append_rule rfl (.tmp 48) (.tmp 51) rfl w5.heap.size (.slice A6 k c6) (anyRow ts) (.slice none 0 0) (Pure.anyRule (k : Int)) rfl rfl rfl (by have h := HR.out.own; rw [HL.out] at h; rw [hql]; exact h) (by omega) HR.out.size ?_
      intro A6 c6 w6 hown6 hk6 _
      rw [hql] at hown6 ⊢
      have HR6 := Lib.hid (HR.out.more HL.out.symm hown6 hk6)
      have HK6 := Lib.hid (HR.out.quiet HKW.out hk6)
      have lw : wrap64 ((k : Int) + 1) = ((k + 1 : Nat) : Int) := by rw [IntWalk.wrap64_in _ (by omega)]; omega
      clear hown6 hk6 hql
      go_wp2_with fail
      go_roundw
      case rel => exact ⟨k + 1, by omega, by go_num, by rw [upto_snoc, ← HTS.out]; exact HR6.out, HK6.out⟩
      case measure => simp [intOf]; omega
    · have hkk : k = 256 := by omega
      subst hkk
      have HR6 := Lib.hid HR.out
      have HK6 := Lib.hid (HK5.out.trans HKW.out)
      clear hkl hk HR HKW
      have hnx := new_any13 _ _ _ (.slice X zs.length cx) ((List.range 256).map fun t => ((t : Nat) : Int)) zs 10 50 wr (by have h := HR6.out.row; rw [← HTS.out]; exact h) (by simp) (HX.out.keeps HK6.out (fun _ _ h => h)) (fun b hb => Nat.lt_of_lt_of_le hb HK6.out.size) (by decide)
      rw [← all_upto, ← HLX.out] at hnx
      have HNX := Lib.hid (show Calls Tryz.prog 13 #[.slice A6 256 c6, .slice X lx cx, .int .i64 10, .int .i64 50] wr _ from hnx)
      clear hnx
      go_wp2_with fail
      refine HNX.out.mono ?_
      intro e w7 hor
      have hk7 : Keeps nobody wr w7 := by rcases hor with ⟨_, _, _, _, _, _, _, _, _, h⟩ | ⟨_, h⟩ <;> exact h
      have hny := new_any13 _ _ _ (.slice Y ns.length cy) ((List.range 256).map fun t => ((t : Nat) : Int)) ns 10 50 w7 (by have h := (HR6.out.keeps hk7).row; rw [← HTS.out]; exact h) (by simp) (HY.out.keeps (HK6.out.trans hk7) (fun _ _ h => h)) (fun b hb => Nat.lt_of_lt_of_le hb (HK6.out.trans hk7).size) (by decide)
      rw [← all_upto, ← HLY.out] at hny
      have HNY := Lib.hid (show Calls Tryz.prog 13 #[.slice A6 256 c6, .slice Y ly cy, .int .i64 10, .int .i64 50] w7 _ from hny)
      have HK7 := Lib.hid hk7
      clear hny hk7 HNX
      rcases hor with ⟨gx, fx, Rx, hfx, rfl, hnx, x1, x2, x3, _⟩ | ⟨rfl, _⟩
      case inr =>
        go_wp2_with fail
        refine HNY.out.mono ?_
        rintro e w8 (⟨gy, fy, Ry, _, rfl, _, _, _, _, hk8⟩ | ⟨rfl, hk8⟩)
        · have HK8 := Lib.hid ((HK6.out.trans HK7.out).trans hk8)
          clear hk8
          go_wp2_with fail
          go_ret
          exact ⟨rfl, HK8.out.to_below⟩
        · have HK8 := Lib.hid ((HK6.out.trans HK7.out).trans hk8)
          clear hk8
          go_wp2_with fail
          go_ret
          exact ⟨rfl, HK8.out.to_below⟩
      have HFX := Lib.hid hfx
      have HNXO := Lib.hid (And.intro hnx (And.intro x1 (And.intro x2 x3)))
      clear hfx hnx x1 x2 x3
      go_wp2_with fail
      refine HNY.out.mono ?_
      rintro e w8 (⟨gy, fy, Ry, hfy, rfl, hny, y1, y2, y3, hk8⟩ | ⟨rfl, hk8⟩)
      case inr =>
        have HK8 := Lib.hid ((HK6.out.trans HK7.out).trans hk8)
        clear hk8
        go_wp2_with fail
        go_ret
        exact ⟨rfl, HK8.out.to_below⟩
      have hTN := two_new HENV.out HK6.out.to_below HK7.out HNXO.out.1 HNXO.out.2.1 HNXO.out.2.2.1 HNXO.out.2.2.2 (Keeps.refl _ w7) hk8 hny y1 y2 y3 (Keeps.refl _ w8)
      obtain ⟨a, ha⟩ : ∃ a, a = optsOf zs := ⟨_, rfl⟩
      obtain ⟨b, hb⟩ : ∃ b, b = optsOf ns := ⟨_, rfl⟩
      rw [← ha, ← hb] at hTN
      have HFF := Lib.hid (show Pure.Fine a ∧ Pure.Fine b ∧ Pure.Apart a ∧ Pure.Apart b by rw [ha, hb]; exact ⟨HFX.out, hfy, H4.out, H5.out⟩)
      have HAZ := Lib.hid ha
      have HBN := Lib.hid hb
      obtain ⟨mx, hmx⟩ : ∃ q, q = fx.gm := ⟨_, rfl⟩
      obtain ⟨my, hmy⟩ : ∃ q, q = fy.gm := ⟨_, rfl⟩
      rw [← hmx, ← hmy] at hTN
      have HP := Lib.hid (pair13_start hTN)
      have HA := Lib.hid (show ((Pure.newNeg Pure.allRules a 10 50).naks ≤ 1000 ∧ ((Pure.newNeg Pure.allRules a 10 50).act 0).1.naks ≤ 1000 ∧ (Pure.newNeg Pure.allRules a 10 50).act 0 = (((Pure.newNeg Pure.allRules a 10 50).act 0).1, Pure.mute) ∧ ((Pure.newNeg Pure.allRules a 10 50).act 0).1.act 2 = (Pure.stage 10 50 a b 0, Pure.sends [⟨1, 1, (Pure.options a).2⟩]) ∧ [(⟨1, 1, (Pure.options a).2⟩ : Pure.Pkt)] = Pure.mute.send ++ (Pure.sends [⟨1, 1, (Pure.options a).2⟩]).send ∧ Pure.mute.send.length ≤ 10) ∧
          ((Pure.newNeg Pure.allRules b 10 50).naks ≤ 1000 ∧ ((Pure.newNeg Pure.allRules b 10 50).act 0).1.naks ≤ 1000 ∧ (Pure.newNeg Pure.allRules b 10 50).act 0 = (((Pure.newNeg Pure.allRules b 10 50).act 0).1, Pure.mute) ∧ ((Pure.newNeg Pure.allRules b 10 50).act 0).1.act 2 = (Pure.stage 10 50 b a 0, Pure.sends [⟨1, 1, (Pure.options b).2⟩]) ∧ [(⟨1, 1, (Pure.options b).2⟩ : Pure.Pkt)] = Pure.mute.send ++ (Pure.sends [⟨1, 1, (Pure.options b).2⟩]).send ∧ Pure.mute.send.length ≤ 10) from
        ⟨⟨Nat.zero_le _, Nat.zero_le _, Prod.ext rfl (Pure.stage_start 10 50 a b).1, (Pure.stage_start 10 50 a b).2, rfl, by decide⟩, ⟨Nat.zero_le _, Nat.zero_le _, Prod.ext rfl (Pure.stage_start 10 50 b a).1, (Pure.stage_start 10 50 b a).2, rfl, by decide⟩⟩)
      have HOX := Lib.hid (HO.out)
      clear hTN ha hb hmx hmy hk8 hfy hny y1 y2 y3 HNY HNXO HFX HK7 HK6 HR6 H2 H3 H4 H5 HK1 HK2 HK3 HK4 HK5 HTS HL HENV
      obtain ⟨XX, hXX⟩ : ∃ q, q = Pure.newNeg Pure.allRules a 10 50 := ⟨_, rfl⟩
      obtain ⟨YY, hYY⟩ : ∃ q, q = Pure.newNeg Pure.allRules b 10 50 := ⟨_, rfl⟩
      rw [← hXX, ← hYY] at HP HA
      obtain ⟨X1, hX1⟩ : ∃ q, q = (XX.act 0).1 := ⟨_, rfl⟩
      obtain ⟨Y1, hY1⟩ : ∃ q, q = (YY.act 0).1 := ⟨_, rfl⟩
      rw [← hX1, ← hY1] at HA
      obtain ⟨X2, hX2⟩ : ∃ q, q = Pure.stage 10 50 a b 0 := ⟨_, rfl⟩
      obtain ⟨Y2, hY2⟩ : ∃ q, q = Pure.stage 10 50 b a 0 := ⟨_, rfl⟩
      rw [← hX2, ← hY2] at HA
      obtain ⟨sx, hsx⟩ : ∃ q, q = [(⟨1, 1, (Pure.options a).2⟩ : Pure.Pkt)] := ⟨_, rfl⟩
      obtain ⟨sy, hsy⟩ : ∃ q, q = [(⟨1, 1, (Pure.options b).2⟩ : Pure.Pkt)] := ⟨_, rfl⟩
      obtain ⟨ox1, hox1⟩ : ∃ q, q = Pure.mute := ⟨_, rfl⟩
      obtain ⟨oy1, hoy1⟩ : ∃ q, q = Pure.mute := ⟨_, rfl⟩
      obtain ⟨ox2, hox2⟩ : ∃ q, q = Pure.sends [⟨1, 1, (Pure.options a).2⟩] := ⟨_, rfl⟩
      obtain ⟨oy2, hoy2⟩ : ∃ q, q = Pure.sends [⟨1, 1, (Pure.options b).2⟩] := ⟨_, rfl⟩
      have HA := Lib.hid (show (XX.naks ≤ 1000 ∧ X1.naks ≤ 1000 ∧ XX.act 0 = (X1, ox1) ∧ X1.act 2 = (X2, ox2) ∧ sx = ox1.send ++ ox2.send ∧ ox1.send.length ≤ 10) ∧ (YY.naks ≤ 1000 ∧ Y1.naks ≤ 1000 ∧ YY.act 0 = (Y1, oy1) ∧ Y1.act 2 = (Y2, oy2) ∧ sy = oy1.send ++ oy2.send ∧ oy1.send.length ≤ 10) by
        rw [hox1, hoy1, hox2, hoy2, hsx, hsy]; exact HA.out)
      have HQ0 := Lib.hid (show ∀ (W : World) (g mb : Nat) (V0 V1 : Value), NPair w W g mb 0 V0 V1 sy sx gx mx gy my X2 Y2 → QSit w W g mb 0 0 gx mx gy my a b from fun W g mb V0 V1 h => ⟨V0, V1, 0, 0, by rw [hsx, hsy, hX2, hY2] at h; exact h, rfl, by omega, by omega, by omega, by omega⟩)
      clear hXX hYY hX1 hY1 hX2 hY2 hsx hsy hox1 hoy1 hox2 hoy2
      have hmake := run_make13
      go_wp2_with fail
      clear hmake
      generalize (w8.alloc (.cells #[.pointer (some ⟨gx, 0, none⟩), .pointer (some ⟨gy, 0, none⟩)] 29)).alloc (.cells #[.slice none 0 0, .slice none 0 0] 35) = W at HP ⊢
      generalize w8.heap.size + 1 = g at HP ⊢
      generalize w8.heap.size = mb at HP ⊢
      go_loopw [15] (fun i wr => ∃ k : Nat, k ≤ 2 ∧ i = .int .i64 (k : Int) ∧ ∃ V0 V1, NPair w wr g mb 0 V0 V1 (if k = 2 then sy else []) (if 1 ≤ k then sx else []) gx mx gy my (if 1 ≤ k then X2 else XX) (if k = 2 then Y2 else YY)) (fun i _ => 2 - (intOf i).toNat)
      case atStart => exact ⟨0, by omega, rfl, _, _, HP.out⟩
      case round =>
        obtain ⟨k, hk, rfl, V0, V1, hP⟩ := hrel
        have HP := Lib.hid hP
        clear hP
        by_cases hk2 : k < 2
        · have HD : ∃ Vm Vo lm hx hm ox om Z Z1 o1 Z2 o2 sz Mo, Hid (NPair w wr g mb k Vm Vo lm [] hx hm ox om Z Mo ∧ (Z.naks ≤ 1000 ∧ Z1.naks ≤ 1000 ∧ Z.act 0 = (Z1, o1) ∧ Z1.act 2 = (Z2, o2) ∧ sz = o1.send ++ o2.send ∧ o1.send.length ≤ 10) ∧ ∀ W' Vo', NPair w W' g mb k Vm Vo' lm sz hx hm ox om Z2 Mo → ∃ V0 V1, NPair w W' g mb 0 V0 V1 (if k + 1 = 2 then sy else []) (if 1 ≤ k + 1 then sx else []) gx mx gy my (if 1 ≤ k + 1 then X2 else XX) (if k + 1 = 2 then Y2 else YY)) := by
            obtain rfl | rfl : k = 0 ∨ k = 1 := by omega
            · exact ⟨V0, V1, [], gx, mx, gy, my, XX, X1, ox1, X2, ox2, sx, YY, Lib.hid ⟨HP.out, HA.out.1, fun W' Vo' h => ⟨_, _, h⟩⟩⟩
            · exact ⟨V1, V0, sx, gy, my, gx, mx, YY, Y1, oy1, Y2, oy2, sy, X2, Lib.hid ⟨HP.out.swap, HA.out.2, fun W' Vo' h => ⟨_, _, h.swap⟩⟩⟩
          obtain ⟨Vm, Vo, lm, hx, hm, ox, om, Z, Z1, o1, Z2, o2, sz, Mo, HD⟩ := HD
          have HQ := Lib.hid HD.out.1
          clear HP
          obtain ⟨j, hj⟩ : ∃ j, j = 1 - k := ⟨_, rfl⟩
          have hj1 : j ≤ 1 := by omega
          have k0 : (0 : Int) ≤ (k : Int) := by omega
          have k1 : (k : Int) < 2 := by omega
          have j0 : (0 : Int) ≤ (j : Int) := by omega
          have j1 : (j : Int) < 2 := by omega
          have e1 : (1 : Int) - (k : Int) = (j : Int) := by omega
          have lw : wrap64 (j : Int) = (j : Int) := IntWalk.wrap64_in _ (by omega)
          have lw2 : IntKind.i64.wrap (j : Int) = (j : Int) := IntWalk.i64_in _ (by omega)
          have lw3 : IntKind.i64.wrap (k : Int) = (k : Int) := IntWalk.i64_in _ (by omega)
          have d0 : decide ((k : Int) < 2) = true := decide_eq_true k1
          have HJ := Lib.hid hj
          clear hj
          obtain ⟨VO8, hvo⟩ : ∃ v, v = Vo := ⟨_, rfl⟩
          have co : wr.cell? ⟨g, j, none⟩ = some VO8 := by rw [hvo, HJ.out]; exact HQ.out.other
          have cm := HQ.out.neg
          obtain ⟨AO, cO, hO⟩ := HQ.out.swap.form
          rw [hvo.trans hO] at co
          have HVO := Lib.hid (show Vo = .slice AO 0 cO from hO)
          rw [hO] at HQ
          clear hvo hO VO8
          have hsent := run_sent
          have HKZ0 := Lib.hid (Keeps.refl nobody wr)
          go_wp2_with fail
          refine wp_region_Z (fun w' => w'.cell? ⟨g, j, none⟩ = some (.slice AO 0 cO) ∧ w'.cell? ⟨mb, k, none⟩ = some (.pointer (some ⟨hx, 0, none⟩))) 16 17 rfl (by kernel_rfl) ⟨co, cm⟩ (fun hHeld => ?_)
          have HSW := hHeld
          clear hHeld
          have HK0d := Lib.hid (HKZ0.out.drew)
          refine wpAnyZ_take (i := 0) rfl (by kernel_rfl) (fun _ _ _ h => h) (Or.inl ⟨by rfl, by intro w hSw; obtain ⟨s0, s1⟩ := hSw; go_simp; try with_reducible rfl⟩) HSW.out ?_
          simp only [Act.put, List.setIfInBounds_toArray, List.getElem_toArray, List.getElem_cons_zero, List.set_cons_succ, List.set_cons_zero]
          refine wpAnyZ_take (i := 1) rfl (by kernel_rfl) (fun _ _ _ h => h) (Or.inl ⟨by rfl, by intro w hSw; obtain ⟨s0, s1⟩ := hSw; go_simp; try with_reducible rfl⟩) HSW.out ?_
          simp only [Act.put, List.setIfInBounds_toArray, List.getElem_toArray, List.getElem_cons_succ, List.getElem_cons_zero, List.set_cons_succ, List.set_cons_zero]
          refine wpAnyZ_take (i := 2) rfl (by kernel_rfl) (fun _ _ _ h => h) (Or.inl ⟨by rfl, by intro w hSw; obtain ⟨s0, s1⟩ := hSw; go_simp; try with_reducible rfl⟩) HSW.out ?_
          simp only [Act.put, List.setIfInBounds_toArray, List.getElem_toArray, List.getElem_cons_succ, List.getElem_cons_zero, List.set_cons_succ, List.set_cons_zero]
          refine wpAnyZ_take (i := 3) rfl (by kernel_rfl) (fun _ _ _ h => h) (Or.inl ⟨by rfl, by intro w hSw; obtain ⟨s0, s1⟩ := hSw; go_simp; try with_reducible rfl⟩) HSW.out ?_
          simp only [Act.put, List.setIfInBounds_toArray, List.getElem_toArray, List.getElem_cons_succ, List.getElem_cons_zero, List.set_cons_succ, List.set_cons_zero]
          refine wpAnyZ_take (i := 4) rfl (by kernel_rfl) (fun _ _ _ h => h) (Or.inl ⟨by rfl, by intro w hSw; obtain ⟨s0, s1⟩ := hSw; go_simp; try with_reducible rfl⟩) HSW.out ?_
          simp only [Act.put, List.setIfInBounds_toArray, List.getElem_toArray, List.getElem_cons_succ, List.getElem_cons_zero, List.set_cons_succ, List.set_cons_zero]
          refine wpAnyZ_take (i := 5) rfl (by kernel_rfl) (fun _ _ _ h => h) (Or.inl ⟨by rfl, by intro w hSw; obtain ⟨s0, s1⟩ := hSw; go_simp; try with_reducible rfl⟩) HSW.out ?_
          simp only [Act.put, List.setIfInBounds_toArray, List.getElem_toArray, List.getElem_cons_succ, List.getElem_cons_zero, List.set_cons_succ, List.set_cons_zero]
          refine wpAnyZ_take (i := 6) rfl (by kernel_rfl) (fun _ _ _ h => h) (Or.inl ⟨by rfl, by intro w hSw; obtain ⟨s0, s1⟩ := hSw; go_simp; try with_reducible rfl⟩) HSW.out ?_
          simp only [Act.put, List.setIfInBounds_toArray, List.getElem_toArray, List.getElem_cons_succ, List.getElem_cons_zero, List.set_cons_succ, List.set_cons_zero]
          refine wpAnyZ_take (i := 7) rfl (by kernel_rfl) (fun _ _ _ h => h) (Or.inl ⟨by rfl, by intro w hSw; obtain ⟨s0, s1⟩ := hSw; go_simp; try with_reducible rfl⟩) HSW.out ?_
          simp only [Act.put, List.setIfInBounds_toArray, List.getElem_toArray, List.getElem_cons_succ, List.getElem_cons_zero, List.set_cons_succ, List.set_cons_zero]
          refine wpAnyZ_take (i := 8) rfl (by kernel_rfl) (fun _ _ _ h => h) (Or.inl ⟨by rfl, by intro w hSw; obtain ⟨s0, s1⟩ := hSw; go_simp; try with_reducible rfl⟩) HSW.out ?_
          simp only [Act.put, List.setIfInBounds_toArray, List.getElem_toArray, List.getElem_cons_succ, List.getElem_cons_zero, List.set_cons_succ, List.set_cons_zero]
          refine wpAnyZ_take (i := 9) rfl (by kernel_rfl) (fun _ _ _ h => h) (Or.inl ⟨by rfl, by intro w hSw; obtain ⟨s0, s1⟩ := hSw; go_simp; try with_reducible rfl⟩) HSW.out ?_
          simp only [Act.put, List.setIfInBounds_toArray, List.getElem_toArray, List.getElem_cons_succ, List.getElem_cons_zero, List.set_cons_succ, List.set_cons_zero]
          refine wpAnyZ_take (i := 10) rfl (by kernel_rfl) (fun _ _ _ h => h) (Or.inl ⟨by rfl, by intro w hSw; obtain ⟨s0, s1⟩ := hSw; go_simp; try with_reducible rfl⟩) HSW.out ?_
          simp only [Act.put, List.setIfInBounds_toArray, List.getElem_toArray, List.getElem_cons_succ, List.getElem_cons_zero, List.set_cons_succ, List.set_cons_zero]
          refine wpAnyZ_take (i := 11) rfl (by kernel_rfl) (fun _ _ _ h => h) (Or.inl ⟨by rfl, by intro w hSw; obtain ⟨s0, s1⟩ := hSw; go_simp; try with_reducible rfl⟩) HSW.out ?_
          simp only [Act.put, List.setIfInBounds_toArray, List.getElem_toArray, List.getElem_cons_succ, List.getElem_cons_zero, List.set_cons_succ, List.set_cons_zero]
          refine wpAnyZ_one (i := 12) (by kernel_rfl) rfl (fun K hK => ?_)
          try rw [if_pos (by rfl)]
          go_simp
          refine ((HQ.out.quiet HK0d.out).acts 0 (by omega) HD.out.2.1.1 HD.out.2.1.2.2.1).mono ?_
          rintro e w8a ⟨sv, rfl, hpend⟩
          obtain ⟨AS, cS, rfl⟩ := hpend.form
          have HPD := Lib.hid hpend
          have HSA := Lib.hid (And.intro (show w8a.cell? ⟨g, j, none⟩ = some (.slice AO 0 cO) from by have := hpend.pair.other; rwa [← HJ.out] at this) hpend.pair.neg)
          clear hpend
          refine hK.out _ _ (fun _ => HSA.out) ?_
          clear hK K
          try simp only [Act.put, List.setIfInBounds_toArray, Nat.reduceAdd, List.getElem_toArray, List.getElem_cons_succ, List.getElem_cons_zero, List.set_cons_succ, List.set_cons_zero]
          refine wpAnyZ_take (i := 13) rfl (by kernel_rfl) (fun _ _ _ h => h) (Or.inl ⟨by rfl, by intro w hSw; obtain ⟨s0, s1⟩ := hSw; go_simp; try with_reducible rfl⟩) HSA.out ?_
          simp only [Act.put, List.setIfInBounds_toArray, List.getElem_toArray, List.getElem_cons_succ, List.getElem_cons_zero, List.set_cons_succ, List.set_cons_zero]
          refine wpAnyZ_one (i := 14) (by kernel_rfl) rfl (fun K hK => ?_)
          rw [if_pos (by rfl)]
          obtain ⟨Fo, G, xs, ys, hwo, hsr, h1c, hlen, hput⟩ := HPD.out.put (by simp)
          refine wpo_append_pkts (.tmp 86) (.tmp 92) rfl rfl rfl hwo hsr h1c hlen ?_
          intro v8 w8b hwin hkc
          obtain ⟨cc, ff, mm, hPc⟩ := hput v8 w8b hwin hkc
          rw [← HJ.out] at cc ff hPc
          obtain ⟨A8, k8, hv8, _⟩ := hwin.form
          subst hv8
          have HPC := Lib.hid hPc
          have HSB := Lib.hid (And.intro cc mm)
          clear hPc hput hwin hkc hwo hsr h1c mm HPD
          refine hK.out _ _ (fun _ => HSB.out) ?_
          clear hK K
          try simp only [Act.put, List.setIfInBounds_toArray, List.getElem_toArray, List.getElem_cons_succ, List.getElem_cons_zero, List.set_cons_succ, List.set_cons_zero]
          refine wpAnyZ_take (i := 15) rfl (by kernel_rfl) (fun _ _ _ h => h) (Or.inl ⟨by rfl, by intro w hSw; obtain ⟨s0, s1⟩ := hSw; go_simp; try with_reducible rfl⟩) HSB.out ?_
          simp only [Act.put, List.setIfInBounds_toArray, List.getElem_toArray, List.getElem_cons_succ, List.getElem_cons_zero, List.set_cons_succ, List.set_cons_zero]
          refine wpAnyZ_one (i := 16) (by kernel_rfl) rfl (fun K hK => ?_)
          go_simp
          refine hK.out _ _ (fun h => absurd rfl h) ?_
          clear hK K
          refine wpAnyZ_done (by kernel_rfl) ?_ _
          have HQ2 := Lib.hid (show NPair w (w8b.setCell ⟨g, j, none⟩ (.slice A8 ([] ++ o1.send).length k8)) g mb k Vm (.slice A8 ([] ++ o1.send).length k8) lm ([] ++ o1.send) hx hm ox om Z1 Mo by rw [List.length_append]; exact HPC.out)
          rw [List.nil_append] at HQ2
          obtain ⟨L8, hL8⟩ : ∃ L, L = o1.send.length := ⟨_, rfl⟩
          have HL8 := Lib.hid hL8
          generalize hV8 : Value.slice A8 _ k8 = V8 at HQ2 ⊢
          generalize w8b.setCell ⟨g, j, none⟩ V8 = w8 at HQ2 ⊢
          clear HPC HSA HSB HQ cc ff co cm hV8 hL8 L8 HL8 HKZ0 HK0d HSW
          obtain ⟨AP, cP, hP8⟩ := HQ2.out.swap.form
          have co : w8.cell? ⟨g, j, none⟩ = some V8 := by rw [HJ.out]; exact HQ2.out.other
          have cm := HQ2.out.neg
          obtain ⟨L8, hL8⟩ : ∃ L, L = o1.send.length := ⟨_, rfl⟩
          rw [hP8] at co HQ2 ⊢
          have HKZ0 := Lib.hid (Keeps.refl nobody w8)
          have d0 : decide ((k : Int) < 2) = true := decide_eq_true k1
          go_wp2_with fail
          refine wp_region_Z (fun w' => w'.cell? ⟨g, j, none⟩ = some (.slice AP o1.send.length cP) ∧ w'.cell? ⟨mb, k, none⟩ = some (.pointer (some ⟨hx, 0, none⟩))) 16 17 rfl (by kernel_rfl) ⟨co, cm⟩ (fun hHeld => ?_)
          have HSW := hHeld
          clear hHeld
          have HK0d := Lib.hid (HKZ0.out.drew)
          refine wpAnyZ_take (i := 0) rfl (by kernel_rfl) (fun _ _ _ h => h) (Or.inl ⟨by rfl, by intro w hSw; obtain ⟨s0, s1⟩ := hSw; go_simp; try with_reducible rfl⟩) HSW.out ?_
          simp only [Act.put, List.setIfInBounds_toArray, List.getElem_toArray, List.getElem_cons_zero, List.set_cons_succ, List.set_cons_zero]
          refine wpAnyZ_take (i := 1) rfl (by kernel_rfl) (fun _ _ _ h => h) (Or.inl ⟨by rfl, by intro w hSw; obtain ⟨s0, s1⟩ := hSw; go_simp; try with_reducible rfl⟩) HSW.out ?_
          simp only [Act.put, List.setIfInBounds_toArray, List.getElem_toArray, List.getElem_cons_succ, List.getElem_cons_zero, List.set_cons_succ, List.set_cons_zero]
          refine wpAnyZ_take (i := 2) rfl (by kernel_rfl) (fun _ _ _ h => h) (Or.inl ⟨by rfl, by intro w hSw; obtain ⟨s0, s1⟩ := hSw; go_simp; try with_reducible rfl⟩) HSW.out ?_
          simp only [Act.put, List.setIfInBounds_toArray, List.getElem_toArray, List.getElem_cons_succ, List.getElem_cons_zero, List.set_cons_succ, List.set_cons_zero]
          refine wpAnyZ_take (i := 3) rfl (by kernel_rfl) (fun _ _ _ h => h) (Or.inl ⟨by rfl, by intro w hSw; obtain ⟨s0, s1⟩ := hSw; go_simp; try with_reducible rfl⟩) HSW.out ?_
          simp only [Act.put, List.setIfInBounds_toArray, List.getElem_toArray, List.getElem_cons_succ, List.getElem_cons_zero, List.set_cons_succ, List.set_cons_zero]
          refine wpAnyZ_take (i := 4) rfl (by kernel_rfl) (fun _ _ _ h => h) (Or.inl ⟨by rfl, by intro w hSw; obtain ⟨s0, s1⟩ := hSw; go_simp; try with_reducible rfl⟩) HSW.out ?_
          simp only [Act.put, List.setIfInBounds_toArray, List.getElem_toArray, List.getElem_cons_succ, List.getElem_cons_zero, List.set_cons_succ, List.set_cons_zero]
          refine wpAnyZ_take (i := 5) rfl (by kernel_rfl) (fun _ _ _ h => h) (Or.inl ⟨by rfl, by intro w hSw; obtain ⟨s0, s1⟩ := hSw; go_simp; try with_reducible rfl⟩) HSW.out ?_
          simp only [Act.put, List.setIfInBounds_toArray, List.getElem_toArray, List.getElem_cons_succ, List.getElem_cons_zero, List.set_cons_succ, List.set_cons_zero]
          refine wpAnyZ_take (i := 6) rfl (by kernel_rfl) (fun _ _ _ h => h) (Or.inl ⟨by rfl, by intro w hSw; obtain ⟨s0, s1⟩ := hSw; go_simp; try with_reducible rfl⟩) HSW.out ?_
          simp only [Act.put, List.setIfInBounds_toArray, List.getElem_toArray, List.getElem_cons_succ, List.getElem_cons_zero, List.set_cons_succ, List.set_cons_zero]
          refine wpAnyZ_take (i := 7) rfl (by kernel_rfl) (fun _ _ _ h => h) (Or.inl ⟨by rfl, by intro w hSw; obtain ⟨s0, s1⟩ := hSw; go_simp; try with_reducible rfl⟩) HSW.out ?_
          simp only [Act.put, List.setIfInBounds_toArray, List.getElem_toArray, List.getElem_cons_succ, List.getElem_cons_zero, List.set_cons_succ, List.set_cons_zero]
          refine wpAnyZ_take (i := 8) rfl (by kernel_rfl) (fun _ _ _ h => h) (Or.inl ⟨by rfl, by intro w hSw; obtain ⟨s0, s1⟩ := hSw; go_simp; try with_reducible rfl⟩) HSW.out ?_
          simp only [Act.put, List.setIfInBounds_toArray, List.getElem_toArray, List.getElem_cons_succ, List.getElem_cons_zero, List.set_cons_succ, List.set_cons_zero]
          refine wpAnyZ_take (i := 9) rfl (by kernel_rfl) (fun _ _ _ h => h) (Or.inl ⟨by rfl, by intro w hSw; obtain ⟨s0, s1⟩ := hSw; go_simp; try with_reducible rfl⟩) HSW.out ?_
          simp only [Act.put, List.setIfInBounds_toArray, List.getElem_toArray, List.getElem_cons_succ, List.getElem_cons_zero, List.set_cons_succ, List.set_cons_zero]
          refine wpAnyZ_take (i := 10) rfl (by kernel_rfl) (fun _ _ _ h => h) (Or.inl ⟨by rfl, by intro w hSw; obtain ⟨s0, s1⟩ := hSw; go_simp; try with_reducible rfl⟩) HSW.out ?_
          simp only [Act.put, List.setIfInBounds_toArray, List.getElem_toArray, List.getElem_cons_succ, List.getElem_cons_zero, List.set_cons_succ, List.set_cons_zero]
          refine wpAnyZ_take (i := 11) rfl (by kernel_rfl) (fun _ _ _ h => h) (Or.inl ⟨by rfl, by intro w hSw; obtain ⟨s0, s1⟩ := hSw; go_simp; try with_reducible rfl⟩) HSW.out ?_
          simp only [Act.put, List.setIfInBounds_toArray, List.getElem_toArray, List.getElem_cons_succ, List.getElem_cons_zero, List.set_cons_succ, List.set_cons_zero]
          refine wpAnyZ_one (i := 12) (by kernel_rfl) rfl (fun K hK => ?_)
          try rw [if_pos (by rfl)]
          go_simp
          refine ((HQ2.out.quiet HK0d.out).acts 2 (by omega) HD.out.2.1.2.1 HD.out.2.1.2.2.2.1).mono ?_
          rintro e w9a ⟨sv, rfl, hpend⟩
          obtain ⟨AS, cS, rfl⟩ := hpend.form
          have HPD := Lib.hid hpend
          have HSA := Lib.hid (And.intro (show w9a.cell? ⟨g, j, none⟩ = some (.slice AP o1.send.length cP) from by have := hpend.pair.other; rwa [← HJ.out] at this) hpend.pair.neg)
          clear hpend
          refine hK.out _ _ (fun _ => HSA.out) ?_
          clear hK K
          try simp only [Act.put, List.setIfInBounds_toArray, Nat.reduceAdd, List.getElem_toArray, List.getElem_cons_succ, List.getElem_cons_zero, List.set_cons_succ, List.set_cons_zero]
          refine wpAnyZ_take (i := 13) rfl (by kernel_rfl) (fun _ _ _ h => h) (Or.inl ⟨by rfl, by intro w hSw; obtain ⟨s0, s1⟩ := hSw; go_simp; try with_reducible rfl⟩) HSA.out ?_
          simp only [Act.put, List.setIfInBounds_toArray, List.getElem_toArray, List.getElem_cons_succ, List.getElem_cons_zero, List.set_cons_succ, List.set_cons_zero]
          refine wpAnyZ_one (i := 14) (by kernel_rfl) rfl (fun K hK => ?_)
          rw [if_pos (by rfl)]
          obtain ⟨Fo, G, xs, ys, hwo, hsr, h1c, hlen, hput⟩ := HPD.out.put (by have := HD.out.2.1.2.2.2.2.2; omega)
          refine wpo_append_pkts (.tmp 102) (.tmp 108) rfl rfl rfl hwo hsr h1c hlen ?_
          intro v9 w9b hwin hkc
          obtain ⟨cc, ff, mm, hPc⟩ := hput v9 w9b hwin hkc
          rw [← HJ.out] at cc ff hPc
          obtain ⟨A9, k9, hv9, _⟩ := hwin.form
          subst hv9
          have HPC := Lib.hid hPc
          have HSB := Lib.hid (And.intro cc mm)
          clear hPc hput hwin hkc hwo hsr h1c mm HPD
          refine hK.out _ _ (fun _ => HSB.out) ?_
          clear hK K
          try simp only [Act.put, List.setIfInBounds_toArray, List.getElem_toArray, List.getElem_cons_succ, List.getElem_cons_zero, List.set_cons_succ, List.set_cons_zero]
          refine wpAnyZ_take (i := 15) rfl (by kernel_rfl) (fun _ _ _ h => h) (Or.inl ⟨by rfl, by intro w hSw; obtain ⟨s0, s1⟩ := hSw; go_simp; try with_reducible rfl⟩) HSB.out ?_
          simp only [Act.put, List.setIfInBounds_toArray, List.getElem_toArray, List.getElem_cons_succ, List.getElem_cons_zero, List.set_cons_succ, List.set_cons_zero]
          refine wpAnyZ_one (i := 16) (by kernel_rfl) rfl (fun K hK => ?_)
          go_simp
          refine hK.out _ _ (fun h => absurd rfl h) ?_
          clear hK K
          refine wpAnyZ_done (by kernel_rfl) ?_ _
          have HP9 := Lib.hid (show ∃ V0 V1, NPair w (w9b.setCell ⟨g, j, none⟩ (.slice A9 (o1.send.length + o2.send.length) k9)) g mb 0 V0 V1 (if k + 1 = 2 then sy else []) (if 1 ≤ k + 1 then sx else []) gx mx gy my (if 1 ≤ k + 1 then X2 else XX) (if k + 1 = 2 then Y2 else YY) from HD.out.2.2 _ _ (by rw [HD.out.2.1.2.2.2.2.1]; exact HPC.out))
          generalize w9b.setCell ⟨g, j, none⟩ (.slice A9 (o1.send.length + o2.send.length) k9) = w9 at HP9 ⊢
          clear HPC HSA HSB HQ2 cc ff co cm HKZ0 HK0d HSW
          go_wp2_with fail
          go_roundw
          case rel => exact ⟨k + 1, by omega, by go_num, HP9.out⟩
          case measure => simp [intOf]; omega
        · have hkk : k = 2 := by omega
          subst hkk
          have HT0 := Lib.hid (HQ0.out _ _ _ _ _ HP.out)
          clear HP hk hk2 HA HQ0
          go_wp2_with fail
          go_loopw [16] (fun i wr2 => ∃ k : Nat, i = .int .i64 (k : Int) ∧ QSit w wr2 g mb 0 k gx mx gy my a b) (fun i _ => 40 - (intOf i).toNat)
          case atStart => exact ⟨0, rfl, HT0.out⟩
          case round =>
            obtain ⟨k, rfl, hS⟩ := hrel
            have HS := Lib.hid hS
            obtain ⟨V0, V1, p0, q0, hP, hab, hp2, hq2, hc1, hc2⟩ := hS
            obtain ⟨A0, z0, hf0⟩ := hP.form
            obtain ⟨A1, z1, hf1⟩ := hP.swap.form
            have c0 := hP.mine
            have c1 : wr.cell? ⟨g, 1, none⟩ = some V1 := hP.other
            rw [hf0] at c0
            rw [hf1] at c1
            have l0 := queue_len a b p0 q0
            have l1 := queue_len b a q0 p0
            have dk : decide ((k : Int) < 40) = true := decide_eq_true (by omega)
            have HP := Lib.hid hP
            have HE := Lib.hid (queue_empty a b p0 q0 hp2 hq2 hc1 hc2)
            obtain ⟨n0, hn0⟩ : ∃ n, n = (Pure.queue a b p0 q0).length := ⟨_, rfl⟩
            obtain ⟨n1, hn1⟩ : ∃ n, n = (Pure.queue b a q0 p0).length := ⟨_, rfl⟩
            rw [← hn0] at c0 l0
            rw [← hn1] at c1 l1
            obtain ⟨N, hN⟩ : ∃ N, N = n0 + n1 := ⟨_, rfl⟩
            have e1 : (n0 : Int) + (n1 : Int) = (N : Int) := by omega
            have lw : wrap64 (N : Int) = (N : Int) := IntWalk.wrap64_in _ (by omega)
            have HN := Lib.hid hN
            have HN0 := Lib.hid hn0
            have HN1 := Lib.hid hn1
            clear hP hN hn0 hn1 hf0 hf1 HT0
            by_cases hz : 0 < N
            · have dz : decide ((0 : Int) < (N : Int)) = true := decide_eq_true (Int.natCast_pos.2 hz)
              have dz2 : decide (0 < N) = true := decide_eq_true hz
              have HK4 := Lib.hid (show k < 4 by have := queue_more a b p0 q0 n0 n1 hp2 hq2 HN0.out HN1.out (by rw [← HN.out]; exact hz); omega)
              have HK40 := Lib.hid (Nat.lt_of_lt_of_le HK4.out (show 4 ≤ 40 by decide))
              clear HP HE HN HN0 HN1 l0 l1 hz hc1 hc2 hab hp2 hq2
              go_wp2_with fail
              go_quiet (fail)
              clear c0 c1 e1 lw dz dz2 dk
              have HS2 := Lib.hid (HS.out.quiet (Keeps.of_drewN (n := nq) rfl))
              have HB2 := Lib.hid (show Below w.heap.size w (wr.drewN nq) by obtain ⟨_, _, _, _, h, _⟩ := HS2.out; exact h.below)
              generalize wr.drewN nq = wd at HS2 HB2 ⊢
              clear HS
              go_upto_if 130 with fail
              go_cut [17] from 131 to 175 (fun v wx => wx = wd ∧ ∃ i : Nat, i ≤ 1 ∧ v = .int .i64 (i : Int))
              case first =>
                by_cases hkl : k < on
                · obtain ⟨bX, oX, rfl, _, hcell⟩ := ((show Row w (fun b => b < w.heap.size) 1 (.slice OO bs.length co0) bs.length (u8s bs) by have h := HO.out; rw [HON.out] at h; exact h).keeps (Keeps.new HB2.out) (fun _ _ h => h)).cellAt (by have := HON.out; omega)
                  have cX := hcell k _ (u8s_at bs k (by have := HON.out; omega))
                  have d1 : decide ((k : Int) < (on : Int)) = true := decide_eq_true (by omega)
                  have d2 : decide (k < on) = true := decide_eq_true hkl
                  have k0 : (0 : Int) ≤ (k : Int) := by omega
                  have k1 : (k : Int) < (on : Int) := by omega
                  obtain ⟨yy, hyy⟩ : ∃ q, q = (bs.getD k 0).toNat := ⟨_, rfl⟩
                  have hyl : yy < 256 := by rw [hyy]; exact (bs.getD k 0).toNat_lt
                  rw [← hyy] at cX
                  clear hcell hyy
                  go_wp2_with fail
                  go_meet
                  exact ⟨rfl, yy % 2, Nat.le_of_lt_succ (Nat.mod_lt _ (by decide)), rfl⟩
                · have d1 : decide ((k : Int) < (on : Int)) = false := decide_eq_false (by omega)
                  have d2 : decide (k < on) = false := decide_eq_false hkl
                  go_wp2_with fail
                  go_meet
                  exact ⟨rfl, 0, by decide, rfl⟩
              case rest =>
              obtain ⟨rfl, pj, hp1, rfl⟩ := hcut
              obtain ⟨Am, nm, zm, cmm, hnm, hpick0, hpick1⟩ := QSit.pick HFF.out.1 HFF.out.2.1 HFF.out.2.2.1 HFF.out.2.2.2 HS2.out HK4.out hp1
              have HP0 := Lib.hid hpick0
              have HP1 := Lib.hid hpick1
              have i0 : (0 : Int) ≤ (pj : Int) := by omega
              have i1 : (pj : Int) < 2 := by omega
              have HPJ := Lib.hid hp1
              clear hpick0 hpick1 HS2
              go_upto_if 142 with fail
              go_cut [17] from 131 to 175 (fun v wx => wx = wc ∧ ∃ i : Nat, i ≤ 1 ∧ v = .int .i64 (i : Int) ∧ QSitN w wc g mb i k (fun W => QSit w W g mb 0 (k + 1) gx mx gy my a b))
              case first =>
                by_cases hz : nm = 0
                · have HX0 := Lib.hid (HP0.out hz)
                  have dn : ((nm : Int) == 0) = true := by rw [beq_iff_eq, hz]; rfl
                  have e1 : (1 : Int) - (pj : Int) = ((1 - pj : Nat) : Int) := by have := HPJ.out; omega
                  have e2 : 1 - pj ≤ 1 := by omega
                  generalize 1 - pj = j at HX0 e1 e2
                  have lw : wrap64 (j : Int) = (j : Int) := IntWalk.wrap64_in _ (by omega)
                  clear hz
                  go_wp2_with fail
                  go_meet
                  exact ⟨rfl, j, e2, rfl, HX0.out⟩
                · have HX1 := Lib.hid (HP1.out hz)
                  have dn : ((nm : Int) == 0) = false := by rw [beq_eq_false_iff_ne]; omega
                  clear hz
                  go_wp2_with fail
                  go_meet
                  exact ⟨rfl, pj, HPJ.out, rfl, HX1.out⟩
              case rest =>
              clear cmm hnm HP0 HP1 i0 i1 hp1
              obtain ⟨rfl, i, hi, rfl, hN⟩ := hcut
              obtain ⟨Vm, Vo, p, t, lo, hx, hm, ox, om, Mm, Mo, n', o', hP, htame, hlo, hin, hback⟩ := hN
              obtain ⟨bb, oo, zc, d, hV, hzc, hcell, hpop⟩ := hP.head'
              have cmv := hP.mine
              rw [hV] at cmv
              have x0 : wc.cell? ⟨bb, oo, none⟩ = some (.int .i64 p.code) := hcell 0 _ rfl
              have x1 : wc.cell? ⟨bb, oo + 1, none⟩ = some (.int .i64 p.id) := hcell 1 _ rfl
              have x2 : wc.cell? ⟨bb, oo + 2, none⟩ = some d := hcell 2 _ rfl
              have i0 : (0 : Int) ≤ (i : Int) := by omega
              have i1 : (i : Int) < 2 := by omega
              obtain ⟨T, hT⟩ : ∃ T, T = t.length := ⟨_, rfl⟩
              rw [← hT] at cmv hzc hpop
              have z0 : (0 : Int) < ((T + 1 : Nat) : Int) := by omega
              have z1 : 0 < T + 1 := by omega
              have hslice := run_tail13 (some ⟨bb, oo, none⟩) T zc hzc
              obtain ⟨DA, dl, dc, hd⟩ : ∃ A n c, d = .slice A n c := by
                obtain ⟨_, _, A, c, e, _⟩ := (hpop wc (Keeps.refl _ _)).1
                exact ⟨A, _, c, e⟩
              subst hd
              have HP2 := Lib.hid hP
              have HPOP := Lib.hid hpop
              have HTAME := Lib.hid htame
              have HLO := Lib.hid hlo
              have HIN := Lib.hid hin
              have HBACK := Lib.hid hback
              have HTT := Lib.hid hT
              clear hP hpop htame hlo hin hback hcell hT hzc hV
              obtain ⟨AV, cV, hVV⟩ := cutS_form (some ⟨bb, oo, none⟩) zc 1 T 3
              rw [hVV] at HPOP hslice
              clear hVV
              obtain ⟨pc, pi, pd⟩ := p
              dsimp only at x0 x1
              go_upto_region 30 with fail
              obtain ⟨gp, hgp⟩ : ∃ q, q = wc.heap.size := ⟨_, rfl⟩
              rw [← hgp]
              generalize hwx : wc.alloc (.cells #[.int .i64 pc, .int .i64 pi, .slice DA dl dc] 40) = wx
              have hkx : Keeps nobody wc wx := by rw [← hwx]; exact (Keeps.refl _ wc).alloc _
              have hbx : Blk wx gp 40 #[.int .i64 pc, .int .i64 pi, .slice DA dl dc] := by rw [← hwx, hgp]; exact Blk.new wc _ _
              have hPx := HP2.out.quiet hkx
              have cmv := cell_quiet cmv hkx
              have fmv := hPx.free i
              obtain ⟨hh, hp2⟩ := HPOP.out wx hkx
              have HH := Lib.hid hh
              have HP3 := Lib.hid hp2
              have hgg : gp ≠ g := by have := hbx.lt; have h2 := cell_lt (HP2.out.mine); omega
              have HBX := Lib.hid ((hbx.far (p := ⟨g, i, none⟩) hgg (.slice AV T cV)))
              clear hwx hkx hbx hPx hh hp2 hgg x0 x1 x2 HP2 HPOP hgp
              go_upto_region 31 with fail
              clear cmv fmv hslice z0 z1
              generalize wx.setCell ⟨g, i, none⟩ (.slice AV T cV) = w8 at HP3 HH HBX ⊢
              generalize Value.slice AV T cV = VV at HP3 ⊢
              obtain ⟨j, hj⟩ : ∃ j, j = 1 - i := ⟨_, rfl⟩
              have hj1 : j ≤ 1 := by omega
              have j0 : (0 : Int) ≤ (j : Int) := by omega
              have j1 : (j : Int) < 2 := by omega
              have e1 : (1 : Int) - (i : Int) = (j : Int) := by omega
              have lw : wrap64 (j : Int) = (j : Int) := IntWalk.wrap64_in _ (by omega)
              have lw2 : IntKind.i64.wrap (j : Int) = (j : Int) := IntWalk.i64_in _ (by omega)
              have lw3 : IntKind.i64.wrap (i : Int) = (i : Int) := IntWalk.i64_in _ (by omega)
              have HJ := Lib.hid hj
              clear hj
              obtain ⟨AO, cO, hO⟩ := HP3.out.swap.form
              have co : w8.cell? ⟨g, j, none⟩ = some Vo := by rw [HJ.out]; exact HP3.out.other
              have cm := HP3.out.neg
              rw [hO] at co HP3
              clear hO
              obtain ⟨nl, hnl⟩ : ∃ q, q = lo.length := ⟨_, rfl⟩
              have hsent := run_sent
              have b0 : w8.cell? ⟨gp, 0, none⟩ = some (.int .i64 pc) := by rw [HBX.out.cell]; rfl
              have b1 : w8.cell? ⟨gp, 1, none⟩ = some (.int .i64 pi) := by rw [HBX.out.cell]; rfl
              have b2 : w8.cell? ⟨gp, 2, none⟩ = some (.slice DA dl dc) := by rw [HBX.out.cell]; rfl
              have HKZ0 := Lib.hid (Keeps.refl nobody w8)
              clear hnl nl
              refine wp_region_Z (fun w' => w'.cell? ⟨g, j, none⟩ = some (.slice AO lo.length cO) ∧ w'.cell? ⟨mb, i, none⟩ = some (.pointer (some ⟨hx, 0, none⟩))) 17 18 rfl (by kernel_rfl) ⟨co, cm⟩ (fun hHeld => ?_)
              have HSW := hHeld
              clear hHeld
              have HK0d := Lib.hid (HKZ0.out.drew)
              refine wpAnyZ_take (i := 0) rfl (by kernel_rfl) (fun _ _ _ h => h) (Or.inl ⟨by rfl, by intro w hSw; obtain ⟨s0, s1⟩ := hSw; go_simp; try with_reducible rfl⟩) HSW.out ?_
              simp only [Act.put, List.setIfInBounds_toArray, List.getElem_toArray, List.getElem_cons_zero, List.set_cons_succ, List.set_cons_zero]
              refine wpAnyZ_take (i := 1) rfl (by kernel_rfl) (fun _ _ _ h => h) (Or.inl ⟨by rfl, by intro w hSw; obtain ⟨s0, s1⟩ := hSw; go_simp; try with_reducible rfl⟩) HSW.out ?_
              simp only [Act.put, List.setIfInBounds_toArray, List.getElem_toArray, List.getElem_cons_succ, List.getElem_cons_zero, List.set_cons_succ, List.set_cons_zero]
              refine wpAnyZ_take (i := 2) rfl (by kernel_rfl) (fun _ _ _ h => h) (Or.inl ⟨by rfl, by intro w hSw; obtain ⟨s0, s1⟩ := hSw; go_simp; try with_reducible rfl⟩) HSW.out ?_
              simp only [Act.put, List.setIfInBounds_toArray, List.getElem_toArray, List.getElem_cons_succ, List.getElem_cons_zero, List.set_cons_succ, List.set_cons_zero]
              refine wpAnyZ_take (i := 3) rfl (by kernel_rfl) (fun _ _ _ h => h) (Or.inl ⟨by rfl, by intro w hSw; obtain ⟨s0, s1⟩ := hSw; go_simp; try with_reducible rfl⟩) HSW.out ?_
              simp only [Act.put, List.setIfInBounds_toArray, List.getElem_toArray, List.getElem_cons_succ, List.getElem_cons_zero, List.set_cons_succ, List.set_cons_zero]
              refine wpAnyZ_take (i := 4) rfl (by kernel_rfl) (fun _ _ _ h => h) (Or.inl ⟨by rfl, by intro w hSw; obtain ⟨s0, s1⟩ := hSw; go_simp; try with_reducible rfl⟩) HSW.out ?_
              simp only [Act.put, List.setIfInBounds_toArray, List.getElem_toArray, List.getElem_cons_succ, List.getElem_cons_zero, List.set_cons_succ, List.set_cons_zero]
              refine wpAnyZ_take (i := 5) rfl (by kernel_rfl) (fun _ _ _ h => h) (Or.inl ⟨by rfl, by intro w hSw; obtain ⟨s0, s1⟩ := hSw; go_simp; try with_reducible rfl⟩) HSW.out ?_
              simp only [Act.put, List.setIfInBounds_toArray, List.getElem_toArray, List.getElem_cons_succ, List.getElem_cons_zero, List.set_cons_succ, List.set_cons_zero]
              refine wpAnyZ_take (i := 6) rfl (by kernel_rfl) (fun _ _ _ h => h) (Or.inl ⟨by rfl, by intro w hSw; obtain ⟨s0, s1⟩ := hSw; go_simp; try with_reducible rfl⟩) HSW.out ?_
              simp only [Act.put, List.setIfInBounds_toArray, List.getElem_toArray, List.getElem_cons_succ, List.getElem_cons_zero, List.set_cons_succ, List.set_cons_zero]
              refine wpAnyZ_take (i := 7) rfl (by kernel_rfl) (fun _ _ _ h => h) (Or.inl ⟨by rfl, by intro w hSw; obtain ⟨s0, s1⟩ := hSw; go_simp; try with_reducible rfl⟩) HSW.out ?_
              simp only [Act.put, List.setIfInBounds_toArray, List.getElem_toArray, List.getElem_cons_succ, List.getElem_cons_zero, List.set_cons_succ, List.set_cons_zero]
              refine wpAnyZ_take (i := 8) rfl (by kernel_rfl) (fun _ _ _ h => h) (Or.inl ⟨by rfl, by intro w hSw; obtain ⟨s0, s1⟩ := hSw; go_simp; try with_reducible rfl⟩) HSW.out ?_
              simp only [Act.put, List.setIfInBounds_toArray, List.getElem_toArray, List.getElem_cons_succ, List.getElem_cons_zero, List.set_cons_succ, List.set_cons_zero]
              refine wpAnyZ_take (i := 9) rfl (by kernel_rfl) (fun _ _ _ h => h) (Or.inl ⟨by rfl, by intro w hSw; obtain ⟨s0, s1⟩ := hSw; go_simp; try with_reducible rfl⟩) HSW.out ?_
              simp only [Act.put, List.setIfInBounds_toArray, List.getElem_toArray, List.getElem_cons_succ, List.getElem_cons_zero, List.set_cons_succ, List.set_cons_zero]
              refine wpAnyZ_take (i := 10) rfl (by kernel_rfl) (fun _ _ _ h => h) (Or.inl ⟨by rfl, by intro w hSw; obtain ⟨s0, s1⟩ := hSw; go_simp; try with_reducible rfl⟩) HSW.out ?_
              simp only [Act.put, List.setIfInBounds_toArray, List.getElem_toArray, List.getElem_cons_succ, List.getElem_cons_zero, List.set_cons_succ, List.set_cons_zero]
              refine wpAnyZ_take (i := 11) rfl (by kernel_rfl) (fun _ _ _ h => h) (Or.inl ⟨by rfl, by intro w hSw; obtain ⟨s0, s1⟩ := hSw; go_simp; try with_reducible rfl⟩) HSW.out ?_
              simp only [Act.put, List.setIfInBounds_toArray, List.getElem_toArray, List.getElem_cons_succ, List.getElem_cons_zero, List.set_cons_succ, List.set_cons_zero]
              refine wpAnyZ_one (i := 12) (by kernel_rfl) rfl (fun K hK => ?_)
              try rw [if_pos (by rfl)]
              go_simp
              refine hK.out _ _ (fun _ => HSW.out) ?_
              clear hK K
              try simp only [Act.put, List.setIfInBounds_toArray, Nat.reduceAdd, List.getElem_toArray, List.getElem_cons_succ, List.getElem_cons_zero, List.set_cons_succ, List.set_cons_zero]
              refine wpAnyZ_one (i := 13) (by kernel_rfl) rfl (fun K hK => ?_)
              try rw [if_pos (by rfl)]
              go_simp
              refine ((HP3.out.quiet HK0d.out).hears (.slice DA dl dc) ⟨pc, pi, pd⟩ ((HH.out.keeps HK0d.out (fun _ _ h => h)).mono (fun b hb => ⟨Nat.lt_of_lt_of_le hb.1 HK0d.out.size, hb.2⟩)) (by have := HTAME.out.naks; have := HK4.out; omega) HTAME.out.rules (by have := HTAME.out.dropped; have := HK4.out; omega) HIN.out).mono ?_
              rintro e w10a ⟨sv, rfl, hpend⟩
              obtain ⟨AS, cS, rfl⟩ := hpend.form
              have HPD := Lib.hid hpend
              have HSA := Lib.hid (And.intro (show w10a.cell? ⟨g, j, none⟩ = some (.slice AO lo.length cO) from by have := hpend.pair.other; rwa [← HJ.out] at this) hpend.pair.neg)
              clear hpend
              refine hK.out _ _ (fun _ => HSA.out) ?_
              clear hK K
              try simp only [Act.put, List.setIfInBounds_toArray, Nat.reduceAdd, List.getElem_toArray, List.getElem_cons_succ, List.getElem_cons_zero, List.set_cons_succ, List.set_cons_zero]
              refine wpAnyZ_take (i := 14) rfl (by kernel_rfl) (fun _ _ _ h => h) (Or.inl ⟨by rfl, by intro w hSw; obtain ⟨s0, s1⟩ := hSw; go_simp; try with_reducible rfl⟩) HSA.out ?_
              simp only [Act.put, List.setIfInBounds_toArray, List.getElem_toArray, List.getElem_cons_succ, List.getElem_cons_zero, List.set_cons_succ, List.set_cons_zero]
              refine wpAnyZ_one (i := 15) (by kernel_rfl) rfl (fun K hK => ?_)
              rw [if_pos (by rfl)]
              obtain ⟨Fo, G, xs, ys, hwo, hsr, h1c, hlen, hput⟩ := HPD.out.put HLO.out
              refine wpo_append_pkts (.tmp 166) (.tmp 173) rfl rfl rfl hwo hsr h1c hlen ?_
              intro v10 w10b hwin hkc
              obtain ⟨cc, ff, mm, hPc⟩ := hput v10 w10b hwin hkc
              rw [← HJ.out] at cc ff hPc
              obtain ⟨A10, k10, hv10, _⟩ := hwin.form
              subst hv10
              have HPC := Lib.hid hPc
              have HSB := Lib.hid (And.intro cc mm)
              clear hPc hput hwin hkc hwo hsr h1c mm HPD
              refine hK.out _ _ (fun _ => HSB.out) ?_
              clear hK K
              try simp only [Act.put, List.setIfInBounds_toArray, List.getElem_toArray, List.getElem_cons_succ, List.getElem_cons_zero, List.set_cons_succ, List.set_cons_zero]
              refine wpAnyZ_take (i := 16) rfl (by kernel_rfl) (fun _ _ _ h => h) (Or.inl ⟨by rfl, by intro w hSw; obtain ⟨s0, s1⟩ := hSw; go_simp; try with_reducible rfl⟩) HSB.out ?_
              simp only [Act.put, List.setIfInBounds_toArray, List.getElem_toArray, List.getElem_cons_succ, List.getElem_cons_zero, List.set_cons_succ, List.set_cons_zero]
              refine wpAnyZ_one (i := 17) (by kernel_rfl) rfl (fun K hK => ?_)
              go_simp
              refine hK.out _ _ (fun h => absurd rfl h) ?_
              clear hK K
              refine wpAnyZ_done (by kernel_rfl) ?_ _

              have HS9 := Lib.hid (HBACK.out _ _ _ HPC.out)
              generalize w10b.setCell ⟨g, j, none⟩ (.slice A10 (lo.length + o'.send.length) k10) = w9 at HS9 ⊢
              clear HPC HSA HSB HP3 HH HBX HTAME HLO HIN HBACK HTT e1 lw lw2 lw3 j0 j1 i0 i1 HJ co cm cc ff HKZ0 HK0d HSW
              have hk3 := HK4.out
              go_wp2_with fail
              go_roundw
              case rel => exact ⟨k + 1, (Int.natCast_succ k).symm, HS9.out⟩
              case measure => exact measure_up13 HK40.out
            · have dz : decide ((0 : Int) < (N : Int)) = false := decide_eq_false (fun h => hz (Int.natCast_pos.1 h))
              have dz2 : decide (0 < N) = false := decide_eq_false hz
              have hz0 : n0 + n1 = 0 := by rw [← HN.out]; exact Nat.eq_zero_of_not_pos hz
              obtain ⟨ep, eq⟩ := HE.out (by rw [← HN0.out]; exact (Nat.add_eq_zero_iff.1 hz0).1) (by rw [← HN1.out]; exact (Nat.add_eq_zero_iff.1 hz0).2)
              have hPE := HP.out
              rw [ep, eq] at hPE
              have HPE := Lib.hid (fun n => hPE.quiet (Keeps.of_drewN (n := n) rfl))
              clear hz0 ep eq hPE HP HE HN HN0 HN1 hz hc1 hc2 hab hp2 hq2 HS
              go_wp2_with fail
              go_quiet (fail)
              clear c0 c1 e1 lw dz dz2 dk l0 l1
              have HPF := Lib.hid (HPE.out nq)
              generalize wr.drewN nq = wd at HPF ⊢
              have HSX := Lib.hid (show Calls Tryz.prog 16 #[.pointer (some ⟨gx, 0, none⟩)] wd fun e w' => e = .returned (.int .i64 9) ∧ wd = w' from HPF.out.state)
              have HSY := Lib.hid (show Calls Tryz.prog 16 #[.pointer (some ⟨gy, 0, none⟩)] wd fun e w' => e = .returned (.int .i64 9) ∧ wd = w' from HPF.out.swap.state)
              clear HPE
              go_wp2_with fail
              refine HSX.out.mono ?_
              rintro e w' ⟨rfl, rfl⟩
              go_wp2_with fail
              refine HSY.out.mono ?_
              rintro e w' ⟨rfl, rfl⟩
              have HKV := Lib.hid (Keeps.refl nobody wd)
              clear HSX HSY
              have HM0 := Lib.hid (show Calls Tryz.prog 18 #[.pointer (some ⟨gx, 0, none⟩)] wd fun e w' => Given wd w' e a from (HPF.out.quiet HKV.out).mines)
              go_wp2_with fail
              refine HM0.out.mono ?_
              rintro e wm0 ⟨u, qs, rfl, hqs, _, hrow, hkm⟩
              obtain ⟨AM, cM, rfl, _⟩ := hrow.form
              have HKV := Lib.hid (HKV.out.trans hkm)
              have hsm := docopts_same _ _ _ (.slice X zs.length cx) qs zs wm0 hrow (HX.out.keeps (Keeps.new (HPF.out.below)|>.trans HKV.out) (fun _ _ h => h))
              rw [hqs, ← HAZ.out, decide_eq_true rfl, ← HLX.out] at hsm
              obtain ⟨nm, hnm⟩ : ∃ q, q = qs.length := ⟨_, rfl⟩
              rw [← hnm] at hsm ⊢
              have HSM := Lib.hid hsm
              clear hqs hrow hkm hsm hnm HM0
              go_wp2_with fail
              refine HSM.out.mono ?_
              rintro e ws0 ⟨rfl, hks⟩
              have HKV := Lib.hid (HKV.out.trans hks)
              clear hks HSM
              have HM1 := Lib.hid (show Calls Tryz.prog 19 #[.pointer (some ⟨gy, 0, none⟩)] ws0 fun e w' => Given ws0 w' e a from ((HPF.out.quiet HKV.out).swap).givens)
              go_wp2_with fail
              refine HM1.out.mono ?_
              rintro e wm1 ⟨u, qs, rfl, hqs, _, hrow, hkm⟩
              obtain ⟨AM, cM, rfl, _⟩ := hrow.form
              have HKV := Lib.hid (HKV.out.trans hkm)
              have hsm := docopts_same _ _ _ (.slice X zs.length cx) qs zs wm1 hrow (HX.out.keeps (Keeps.new (HPF.out.below)|>.trans HKV.out) (fun _ _ h => h))
              rw [hqs, ← HAZ.out, decide_eq_true rfl, ← HLX.out] at hsm
              obtain ⟨nm, hnm⟩ : ∃ q, q = qs.length := ⟨_, rfl⟩
              rw [← hnm] at hsm ⊢
              have HSM := Lib.hid hsm
              clear hqs hrow hkm hsm hnm HM1
              go_wp2_with fail
              refine HSM.out.mono ?_
              rintro e ws1 ⟨rfl, hks⟩
              have HKV := Lib.hid (HKV.out.trans hks)
              clear hks HSM
              have HM2 := Lib.hid (show Calls Tryz.prog 18 #[.pointer (some ⟨gy, 0, none⟩)] ws1 fun e w' => Given ws1 w' e b from ((HPF.out.quiet HKV.out).swap).mines)
              go_wp2_with fail
              refine HM2.out.mono ?_
              rintro e wm2 ⟨u, qs, rfl, hqs, _, hrow, hkm⟩
              obtain ⟨AM, cM, rfl, _⟩ := hrow.form
              have HKV := Lib.hid (HKV.out.trans hkm)
              have hsm := docopts_same _ _ _ (.slice Y ns.length cy) qs ns wm2 hrow (HY.out.keeps (Keeps.new (HPF.out.below)|>.trans HKV.out) (fun _ _ h => h))
              rw [hqs, ← HBN.out, decide_eq_true rfl, ← HLY.out] at hsm
              obtain ⟨nm, hnm⟩ : ∃ q, q = qs.length := ⟨_, rfl⟩
              rw [← hnm] at hsm ⊢
              have HSM := Lib.hid hsm
              clear hqs hrow hkm hsm hnm HM2
              go_wp2_with fail
              refine HSM.out.mono ?_
              rintro e ws2 ⟨rfl, hks⟩
              have HKV := Lib.hid (HKV.out.trans hks)
              clear hks HSM
              have HM3 := Lib.hid (show Calls Tryz.prog 19 #[.pointer (some ⟨gx, 0, none⟩)] ws2 fun e w' => Given ws2 w' e b from (HPF.out.quiet HKV.out).givens)
              go_wp2_with fail
              refine HM3.out.mono ?_
              rintro e wm3 ⟨u, qs, rfl, hqs, _, hrow, hkm⟩
              obtain ⟨AM, cM, rfl, _⟩ := hrow.form
              have HKV := Lib.hid (HKV.out.trans hkm)
              have hsm := docopts_same _ _ _ (.slice Y ns.length cy) qs ns wm3 hrow (HY.out.keeps (Keeps.new (HPF.out.below)|>.trans HKV.out) (fun _ _ h => h))
              rw [hqs, ← HBN.out, decide_eq_true rfl, ← HLY.out] at hsm
              obtain ⟨nm, hnm⟩ : ∃ q, q = qs.length := ⟨_, rfl⟩
              rw [← hnm] at hsm ⊢
              have HSM := Lib.hid hsm
              clear hqs hrow hkm hsm hnm HM3
              go_wp2_with fail
              refine HSM.out.mono ?_
              rintro e ws3 ⟨rfl, hks⟩
              have HKV := Lib.hid (HKV.out.trans hks)
              clear hks HSM
              go_wp2_with fail
              go_ret
              exact ⟨rfl, Below.quiet HPF.out.below HKV.out HPF.out.below.size⟩
theorem negoTwo_walk (a0 : Option Addr) (len0 cap0 : Nat) (a1 : Option Addr) (len1 cap1 : Nat) (a2 : Option Addr) (len2 cap2 : Nat) (z2 : List Int) (w : World) (hg : Env13 w) (w0 : IsStructs w [.int .i64, .row .u8] a0 len0 cap0) (w1 : IsStructs w [.int .i64, .row .u8] a1 len1 cap1) (w2 : IsRow .u8 w a2 len2 cap2 z2) :
    Calls Tryz.prog 3 #[.slice a0 len0 cap0, .slice a1 len1 cap1, .slice a2 len2 cap2] w fun e w' => e = .returned (.bool true) ∧ Below w.heap.size w w' := by
  obtain ⟨zs, _, hz, _⟩ := opts_of w0
  obtain ⟨ns, _, hn, _⟩ := opts_of w1
  obtain ⟨l, hl, hr⟩ := w2.bytes
  subst hl
  exact negoTwo_walk' _ _ _ zs ns l w hg hz hn hr
end Go.Proofs.YtjomcffhbaplcaaGreatDoor
