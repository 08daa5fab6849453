/- Chapter 13's statements: NegoIds. -/
import Derived.Test.YtjomcffhbaplcaaGreatDoorQ50
namespace Go.Proofs.YtjomcffhbaplcaaGreatDoor
open Go.RowKit
def tk (ask : List Pure.Opt) (i : Nat) : Pure.Neg := { Pure.begun [] ask 100 1 with m := ⟨6, 99 - i, 1, 100, 1⟩, id := i + 1, asked := i + 1 }
theorem tk_tick (ask : List Pure.Opt) {i : Nat} (h : i < 30) : (tk ask i).tick = (tk ask (i + 1), Pure.sends [⟨1, ((i + 2 : Nat) : Int), (Pure.options ask).2⟩]) := by
  have h1 := Pure.tick_asks_again (n := tk ask i) (c := 98 - i) (t := 100) (u := 1) (by show (⟨6, 99 - i, 1, 100, 1⟩ : Pure.Mach) = _; rw [show 99 - i = 98 - i + 1 by omega])
  have e : (tk ask i).next = i + 2 := by show (i + 1 + 1) % 256 = i + 2; omega
  rw [e] at h1
  rw [h1]
  unfold tk
  rw [show 99 - (i + 1) = 98 - i by omega]
  rfl
/-- The requests that were sent. -/
def reqs (D : List UInt8) (n : Nat) : List Pure.Pkt := (List.range n).map fun i => ⟨1, ((i + 1 : Nat) : Int), D⟩
theorem reqs_snoc (D : List UInt8) (n : Nat) : reqs D (n + 1) = reqs D n ++ [⟨1, ((n + 1 : Nat) : Int), D⟩] := by
  unfold reqs
  rw [List.range_succ, List.map_append]
  rfl
theorem reqs_at (D : List UInt8) {n i : Nat} (h : i < n) : (reqs D n)[i]? = some ⟨1, ((i + 1 : Nat) : Int), D⟩ := by
  unfold reqs
  rw [List.getElem?_map, List.getElem?_range h]
  rfl
theorem wp_append_pkts {w : World} {ops : Array Oper} {rest : List Oper} {o : Oper} {a : Act} {Q : Exit → Act → World → Prop} (hgd : o.guard = none) (s x : Operand) (ho : o.op = .call { callee := .builtin .append, args := #[s, x], argTypes := #[35, 35] })
    {F G : Nat → Prop} {n m : Nat} {v y : Value} {xs ys : List Value} (hs : a.eval s = v) (hx : a.eval x = y) (h : WinOf w F 40 3 v n xs) (hr : Row w G 3 y m ys) (h1 : ∀ u ∈ ys, u.oneCell' = true) (hlen : n + m ≤ 100000)
    (hK : ∀ v' w', WinOf w' (fun b => F b ∨ w.heap.size ≤ b) 40 3 v' (n + m) (xs ++ ys) → Keeps F w w' → wpList Tryz.prog ops Q rest (a.put o.dst v') w') : wpList Tryz.prog ops Q (o :: rest) a w :=
  wpList_plain hgd fun _ hK' => wpo_append_pkts s x ho hs hx h hr h1 hlen fun v' w' h2 h3 => hK' _ _ (hK v' w' h2 h3)
theorem i64_and13 (c : Nat) (hc : c < 65536) : bits .and .i64 (c : Int) 255 = ((c % 256 : Nat) : Int) := by
  show IntKind.i64.wrap (((BitVec.ofInt 64 (c : Int)) &&& (BitVec.ofInt 64 255)).toNat : Int) = _
  rw [BitVec.toNat_and]
  have h1 : (BitVec.ofInt 64 (c : Int)).toNat = c := by rw [BitVec.toNat_ofInt]; omega
  have h2 : (BitVec.ofInt 64 255).toNat = 255 := by rw [BitVec.toNat_ofInt]; rfl
  rw [h1, h2]
  have h3 : c &&& 255 = c % 256 := Nat.and_two_pow_sub_one_eq_mod c 8
  rw [h3]
  exact IntWalk.i64_in _ (by omega)
theorem fine_short {l : List Pure.Opt} (h : Pure.Fine l) : ((Pure.options l).2).length ≤ 8160 := by
  rw [Pure.options_ok (by have := h.len; omega) h.odd]
  show (Pure.joined l).length ≤ 8160
  have := Pure.joined_len l h.odd
  have := h.len
  omega
def dk (ask : List Pure.Opt) (i d : Nat) : Pure.Neg := { tk ask i with dropped := d }
theorem dk_other (ask : List Pure.Opt) (i d : Nat) (b : Int) (D : List UInt8) (h : b ≠ ((i + 1 : Nat) : Int)) : (dk ask i d).input ⟨2, b, D⟩ = (dk ask i (d + 1), Pure.mute) :=
  Pure.hear_other (n := dk ask i d) (by show 2 ≤ 6; omega) (.inl rfl) (.inr h)
theorem dk_changed (ask : List Pure.Opt) (i d : Nat) (b : Int) (D : List UInt8) (h : D ≠ (Pure.options ask).2) : (dk ask i d).input ⟨2, b, D⟩ = (dk ask i (d + 1), Pure.mute) :=
  Pure.hear_changed (n := dk ask i d) (by show 2 ≤ 6; omega) rfl h
/-- Acked. -/
def ak (ask : List Pure.Opt) (i d : Nat) : Pure.Neg := { dk ask i d with m := ⟨7, 100, 1, 100, 1⟩, waits := false, acked := (Pure.split (Pure.options ask).2).2 }
theorem dk_good (ask : List Pure.Opt) (i d : Nat) : (dk ask i d).input ⟨2, ((i + 1 : Nat) : Int), (Pure.options ask).2⟩ = (ak ask i d, Pure.mute) :=
  Pure.hear_ack6 (n := dk ask i d) (c := 99 - i) (l := 1) (t := 100) (u := 1) rfl rfl
theorem ak_other (ask : List Pure.Opt) (i d : Nat) (b : Int) (D : List UInt8) : (ak ask i d).input ⟨2, b, D⟩ = (ak ask i (d + 1), Pure.mute) :=
  Pure.hear_other (n := ak ask i d) (by show 2 ≤ 7; omega) (.inl rfl) (.inl rfl)
/-- The two Acks that are not to be heeded, as they lie. -/
def Bad13 (wa : World) (n B : Nat) (A1 : Option Addr) (dl c1 : Nat) (D' : List UInt8) (v : Value) (w' : World) : Prop :=
  ∃ gb AE cE, v = .slice (some ⟨gb, 0, none⟩) 2 2 ∧ Blk w' gb 40 #[.int .i64 2, .int .i64 (B : Int), .slice A1 dl c1, .int .i64 2, .int .i64 (n : Int), .slice AE (dl + 1) cE] ∧ Keeps nobody wa w' ∧
    Row w' (fun b => wa.heap.size ≤ b ∧ b < w'.heap.size) 1 (.slice AE (dl + 1) cE) (dl + 1) (u8s D') ∧ wa.heap.size ≤ gb
theorem snoc_ne (D : List UInt8) (y : UInt8) : D ++ [y] ≠ D := fun h => by
  have := congrArg List.length h
  rw [List.length_append] at this
  simp at this
theorem measure_up15 {k m : Nat} (h : k < m) : m - (intOf (.int .i64 ((k : Int) + 1))).toNat < m - (intOf (.int .i64 (k : Int))).toNat := by
  show m - ((k : Int) + 1).toNat < m - ((k : Int)).toNat
  omega
set_option maxRecDepth 100000 in
set_option maxHeartbeats 8000000 in
theorem negoIds_walk' (t : Nat) (ht : t < 256) (yb : UInt8) (x : Value) (zs : List (Value × Pure.Opt)) (w : World) (env : Env13 w) (hx : ORow w (fun b => b < w.heap.size) x zs) :
    Calls Tryz.prog 4 #[x, .int .u8 (t : Int), .int .u8 (yb.toNat : Nat)] w fun e w' => e = .returned (.bool true) ∧ Below w.heap.size w w' := by
  obtain ⟨X, cx, rfl, _⟩ := hx.form
  have HX := Lib.hid hx
  have HENV := Lib.hid env
  have HAW := Lib.hid (awake_any w)
  obtain ⟨K, hK⟩ : ∃ q, q = t % 30 := ⟨_, rfl⟩
  have EK := Lib.hid (show (t : Int) % 30 = (K : Int) by omega)
  have HK := Lib.hid (show K < 30 by omega)
  obtain ⟨y, hy⟩ : ∃ y, y = yb.toNat := ⟨_, rfl⟩
  have hy256 : y < 256 := by rw [hy]; exact yb.toNat_lt
  rw [← hy]
  have HYB := Lib.hid hy
  clear hx env hK hy
  go_enter Tryz.func4, Tryz.ntmps4
  go_wp2_with fail
  refine HAW.out.mono ?_
  rintro e w1 ⟨rfl, hk1⟩
  have HK1 := Lib.hid hk1
  clear hk1 HAW
  have hc2 := small_any _ _ zs w1 (HX.out.keeps HK1.out (fun _ _ h => h))
  obtain ⟨S2, hS2⟩ : ∃ S, S = decide (smallOpts (optsOf zs)) := ⟨_, rfl⟩
  rw [← hS2] at hc2
  have HC2 := Lib.hid hc2
  have HS2 := Lib.hid hS2
  clear hc2 hS2
  go_wp2_with fail
  refine HC2.out.mono ?_
  rintro e w2 ⟨rfl, hw2⟩
  have HK2 := Lib.hid (show Keeps nobody w w2 by rw [hw2]; exact HK1.out)
  clear hw2 HC2 HK1
  cases S2
  · go_wp2_with fail
    go_ret
    exact ⟨rfl, HK2.out.to_below⟩
  clear HS2
  have HNX := Lib.hid (show Calls Tryz.prog 13 #[.slice none 0 0, .slice X zs.length cx, .int .i64 100, .int .i64 1] w2 _ from new_any13 nobody _ _ _ [] zs 100 1 w2 ⟨Row.nil _ _ _, fun p hp => by cases hp⟩ (by decide) (HX.out.keeps HK2.out (fun _ _ h => h)) (fun b hb => Nat.lt_of_lt_of_le hb HK2.out.size) (by decide))
  go_wp2_with fail
  refine HNX.out.mono ?_
  rintro e w3 (⟨gx, fx, Rx, hfx, rfl, hnx, x1, x2, x3, hk3⟩ | ⟨rfl, hk3⟩)
  case inr =>
    have HK3 := Lib.hid (HK2.out.trans hk3)
    clear hk3
    go_wp2_with fail
    go_ret
    exact ⟨rfl, HK3.out.to_below⟩
  obtain ⟨ask, hask⟩ : ∃ q, q = optsOf zs := ⟨_, rfl⟩
  have HDB := Lib.hid (show (Pure.options ask).2.length ≤ 8160 from fine_short (by rw [hask]; exact hfx))
  have hso := solo_new HENV.out HK2.out.to_below hk3 hnx x1 x2
  rw [← hask] at hso
  obtain ⟨mx, hmx⟩ : ∃ q, q = fx.gm := ⟨_, rfl⟩
  rw [← hmx] at hso
  have HDO := Lib.hid (hso.does 0 (.inl rfl) (Nat.zero_le _) (Pure.neg_up [] ask 100 1))
  clear hso hmx hnx x1 x2 x3 hk3 HNX HK2 HENV hfx hask HX
  go_wp2_with fail
  refine HDO.out.mono ?_
  rintro e w4 ⟨sv0, rfl, hso, _, hk4⟩
  have HS4 := Lib.hid hso
  have HDO := Lib.hid (show Calls Tryz.prog 14 #[.pointer (some ⟨gx, 0, none⟩), .int .i64 2] w4 fun r w' => ∃ sv, r = .returned (.agg #[sv, .bool false, .bool false, .bool false, .bool false]) ∧ NSolo w w' gx mx (tk ask 0) ∧ Posts w4 w' sv (reqs (Pure.options ask).2 1) ∧ Keeps (fun b => b = gx ∨ b = mx) w4 w' from hso.does 2 (.inr (.inr (.inl rfl))) (Nat.zero_le _) (Pure.neg_open [] ask 100 1))
  clear hso hk4
  go_wp2_with fail
  refine HDO.out.mono ?_
  rintro e w5 ⟨sv, rfl, hso, hpo, hk5⟩
  obtain ⟨D, hD⟩ : ∃ D, D = (Pure.options ask).2 := ⟨_, rfl⟩
  rw [← hD] at hpo
  have hlp := NLogP.start HS4.out hso hpo
  obtain ⟨AS, cS, hsv⟩ := hlp.form
  have hsv : sv = .slice AS 1 cS := hsv
  subst hsv
  have HLP := Lib.hid hlp
  have HD := Lib.hid hD
  clear hso hpo hk5 hlp HS4 HDO hD
  obtain ⟨go, hgo⟩ : ∃ q, q = w5.heap.size := ⟨_, rfl⟩
  go_upto_region 10 with fail
  rw [← hgo]
  generalize hw6 : w5.alloc (.cells #[.slice AS 1 cS, .bool false, .bool false, .bool false, .bool false] 37) = w6
  have hk6 : Keeps nobody w5 w6 := by rw [← hw6]; exact (Keeps.refl _ w5).alloc _
  have o0 : w6.cell? ⟨go, 0, none⟩ = some (.slice AS 1 cS) := by rw [← hw6, hgo, (Blk.new w5 _ _).cell]; rfl
  have HLP := Lib.hid (HLP.out.quiet hk6)
  clear hgo hw6 hk6
  go_upto_region 11 with fail
  rw [EK.out]
  go_wp2_with (at_builtin; refine stopHere ?_)
  unfold Hid
  obtain ⟨F7, G7, xs7, ys7, qs7, hqs7, hwin7, hrow7, hone7, hlen7, hput7⟩ := HLP.out.put (Nat.zero_le _)
  refine wp_append_pkts rfl (.tmp 41) (.tmp 43) rfl rfl rfl hwin7 hrow7 hone7 hlen7 ?_
  intro v7 w7 hwin hk7
  have hlog := hput7 v7 w7 hwin hk7
  obtain ⟨A7, c7, hv7⟩ := hlog.form
  have hql7 : ([] ++ qs7).length = 1 := by
    have := congrArg List.length hqs7
    rw [List.length_map] at this
    rw [List.nil_append, this]
    rfl
  rw [hql7] at hv7
  subst hv7
  have HL7 := Lib.hid (show ∃ ps : List (Value × Pure.Pkt), ps.map Prod.snd = reqs D (0 + 1) ∧ NLog w w7 gx mx (tk ask 0) (.slice A7 1 c7) ps from ⟨_, by rw [List.nil_append]; exact hqs7, hlog⟩)
  clear hqs7 hwin7 hrow7 hone7 hlen7 hput7 hwin hk7 hlog hql7 HLP o0
  go_wp2_with fail
  go_loopw [11, 12] (fun v i wr => ∃ j : Nat, j ≤ K ∧ i = .int .i64 (j : Int) ∧ ∃ ps : List (Value × Pure.Pkt), ps.map Prod.snd = reqs D (j + 1) ∧ NLog w wr gx mx (tk ask j) v ps) (fun _ i _ => K - (intOf i).toNat)
  case atStart => exact ⟨0, Nat.zero_le _, rfl, HL7.out⟩
  case round =>
    obtain ⟨j, hj, rfl, ps, hps, hlog⟩ := hrel
    obtain ⟨A8, c8, hv8⟩ := hlog.form
    have hpl : ps.length = j + 1 := by
      have := congrArg List.length hps
      rw [List.length_map] at this
      rw [this]
      unfold reqs
      rw [List.length_map, List.length_range]
    rw [hpl] at hv8
    subst hv8
    have HPS := Lib.hid hps
    have HPL := Lib.hid hpl
    have HLG := Lib.hid hlog
    clear hps hpl hlog HL7
    have hj30 : j < 31 := by have := HK.out; omega
    by_cases hjl : j < K
    · have d1 : decide ((j : Int) < (K : Int)) = true := decide_eq_true (by omega)
      have d2 : decide (j < K) = true := decide_eq_true hjl
      have hsent := run_sent
      have HTI := Lib.hid (show Calls Tryz.prog 20 #[.pointer (some ⟨gx, 0, none⟩)] wr fun r w' => ∃ sv, r = .returned (.agg #[sv, .bool false, .bool false, .bool false, .bool false]) ∧ NLogP w w' gx mx (tk ask (j + 1)) (.slice A8 (j + 1) c8) ps sv [⟨1, ((j + 2 : Nat) : Int), D⟩] from by
        rw [HD.out]
        exact HLG.out.ticks (Nat.zero_le _) (tk_tick ask (by have := HK.out; omega)))
      go_wp2_with fail
      refine HTI.out.mono ?_
      rintro e w9 ⟨sv, rfl, hpend⟩
      obtain ⟨AT, cT, hsv⟩ := hpend.form
      have hsv : sv = .slice AT 1 cT := hsv
      subst hsv
      have HPD := Lib.hid hpend
      clear hpend HTI
      go_wp2_with (at_builtin; refine stopHere ?_)
      unfold Hid
      obtain ⟨F7, G7, xs7, ys7, qs7, hqs7, hwin7, hrow7, hone7, hlen7, hput7⟩ := HPD.out.put (by rw [HPL.out]; omega)
      rw [HPL.out] at hwin7 hlen7 hput7
      refine wp_append_pkts rfl (.tmp 50) (.tmp 53) rfl rfl rfl hwin7 hrow7 hone7 hlen7 ?_
      intro v7 w7 hwin hk7
      have hlog := hput7 v7 w7 hwin hk7
      obtain ⟨AU, cU, hv7⟩ := hlog.form
      have hq7l : (ps ++ qs7).length = j + 1 + 1 := by
        have := congrArg List.length hqs7
        rw [List.length_map] at this
        rw [List.length_append, this, HPL.out]
        rfl
      rw [hq7l] at hv7
      subst hv7
      have HNX := Lib.hid (show ∃ ps' : List (Value × Pure.Pkt), ps'.map Prod.snd = reqs D (j + 1 + 1) ∧ NLog w w7 gx mx (tk ask (j + 1)) (.slice AU (j + 1 + 1) cU) ps' from ⟨ps ++ qs7, by rw [List.map_append, hqs7, HPS.out, reqs_snoc D (j + 1)], hlog⟩)
      clear hqs7 hwin7 hrow7 hone7 hlen7 hput7 hwin hk7 hlog HPD hq7l
      go_wp2_with fail
      go_roundw
      case rel => exact ⟨j + 1, Nat.succ_le_of_lt hjl, rfl, HNX.out⟩
      case measure => exact measure_up15 hjl
    · have hjj : j = K := by omega
      subst hjj
      have d1 : decide ((j : Int) < (j : Int)) = false := decide_eq_false (by omega)
      have d2 : decide (j < j) = false := decide_eq_false (by omega)
      obtain ⟨wl, rfl⟩ : ∃ q, q = wr := ⟨wr, rfl⟩
      obtain ⟨N, hN⟩ : ∃ N, N = j + 1 := ⟨_, rfl⟩
      have EN := Lib.hid (show (j : Int) + 1 = (N : Int) by omega)
      have HN := Lib.hid hN
      have hpr := HLG.out.row (by rw [HPL.out]; omega)
      rw [← hN] at HPS HPL HLG hpr ⊢
      have HPR := Lib.hid hpr
      have HLN := Lib.hid (show N ≤ 31 by omega)
      clear hN hpr hjl hj
      have e1 : wrap64 ((j : Int) + 1) = (N : Int) := by rw [IntWalk.wrap64_in _ (by omega)]; exact EN.out
      have en := EN.out
      go_upto_if 59 with fail
      obtain ⟨pX, oX, _, _, _, hA8, _⟩ := HPR.out.pick 0 (by rw [HPL.out, HN.out]; omega)
      subst hA8
      clear e1 en
      go_wp2_with fail
      go_loopw [13] (fun i wr2 => ∃ n : Nat, n ≤ N ∧ i = .int .i64 (n : Int) ∧ Keeps nobody wl wr2) (fun i _ => N - (intOf i).toNat)
      case atStart => exact ⟨0, Nat.zero_le _, rfl, Keeps.refl _ _⟩
      case round =>
        obtain ⟨n, hn, rfl, hkw⟩ := hrel
        have HKW := Lib.hid hkw
        have hpw := HPR.out.keeps hkw (fun _ _ h => h)
        clear hkw
        by_cases hnl : n < N
        · obtain ⟨p1, o1, A1, c1, q1, hx1, hF1, y1, r1, g1⟩ := hpw.pick n (by rw [HPL.out]; exact hnl)
          obtain ⟨p0, o0, A0, c0, q0, hx0, hF0, y0, r0, g0⟩ := hpw.pick 0 (by rw [HPL.out]; omega)
          injection hx1 with hx1
          injection hx1 with hx1 hx2
          subst hx1 hx2
          injection hx0 with hx0
          injection hx0 with hx0 hx2
          subst hx0 hx2
          have hq1 : q1 = ⟨1, ((n + 1 : Nat) : Int), D⟩ := by
            have h := reqs_at D (n := N) (i := n) hnl
            rw [← HPS.out, List.getElem?_map, g1] at h
            injection h
          have hq0 : q0 = ⟨1, ((0 + 1 : Nat) : Int), D⟩ := by
            have h := reqs_at D (n := N) (i := 0) (by omega)
            rw [← HPS.out, List.getElem?_map, g0] at h
            injection h
          subst hq1 hq0
          obtain ⟨dl, hdl⟩ : ∃ q, q = D.length := ⟨_, rfl⟩
          have z0 : wr.cell? ⟨pX, oX + n * 3, none⟩ = some (.int .i64 1) := y1 0 _ rfl
          have z1 : wr.cell? ⟨pX, oX + n * 3 + 1, none⟩ = some (.int .i64 ((n : Int) + 1)) := y1 1 _ rfl
          have z2 : wr.cell? ⟨pX, oX + n * 3 + 2, none⟩ = some (.slice A1 dl c1) := by rw [hdl]; exact y1 2 _ rfl
          have z3 : wr.cell? ⟨pX, oX + 2, none⟩ = some (.slice A0 dl c0) := by rw [hdl]; have h := y0 2 _ rfl; rw [Nat.zero_mul, Nat.add_zero] at h; exact h
          have HSAME := Lib.hid (fun (W : World) (k : Keeps nobody wr W) => (show Calls Tryz.prog 21 #[.slice A1 dl c1, .slice A0 dl c0] W fun e w' => e = .returned (.bool true) ∧ Keeps nobody W w' from by
            have h := same_any _ _ _ _ D D W (r1.keeps k (fun _ _ h => h)) (r0.keeps k (fun _ _ h => h))
            rw [decide_eq_true (rfl : D = D), ← hdl] at h
            exact h))
          have HZ := Lib.hid (And.intro z0 (And.intro z1 (And.intro z2 z3)))
          have HKR := Lib.hid (Keeps.refl nobody wr)
          have d1 : decide ((n : Int) < (N : Int)) = true := decide_eq_true (by omega)
          have d2 : decide (n < N) = true := decide_eq_true hnl
          have n0 : (0 : Int) ≤ (n : Int) := by omega
          have n1 : (n : Int) < (N : Int) := by omega
          have nz : (0 : Int) < (N : Int) := by omega
          have nz2 : 0 < N := by omega
          have hn31 : n < 31 := by have := HLN.out; omega
          clear y1 y0 r1 r0 g1 g0 z0 z1 z2 z3 hdl hpw hF1 hF0
          go_upto_region 22 with fail
          have lwn : IntKind.i64.wrap ((n : Int) + 1) = (n : Int) + 1 := IntWalk.i64_in _ (by omega)
          refine wp_region_Z (fun w' => w'.cell? ⟨pX, oX + n * 3, none⟩ = some (.int .i64 1) ∧ w'.cell? ⟨pX, oX + n * 3 + 1, none⟩ = some (.int .i64 ((n : Int) + 1)) ∧ w'.cell? ⟨pX, oX + n * 3 + 2, none⟩ = some (.slice A1 dl c1) ∧ w'.cell? ⟨pX, oX + 2, none⟩ = some (.slice A0 dl c0)) 28 29 rfl (by kernel_rfl) HZ.out (fun hHeld => ?_)
          have HSW := hHeld
          clear hHeld
          have HK0d := Lib.hid (HKR.out.drew)
          refine wpAnyZ_take (i := 0) rfl (by kernel_rfl) (fun _ _ _ h => h) (Or.inl ⟨by rfl, by intro w hSw; obtain ⟨s0, s1, s2, s3⟩ := hSw; go_simp; try with_reducible rfl⟩) HSW.out ?_
          simp only [Act.put, List.setIfInBounds_toArray, List.getElem_toArray, List.getElem_cons_zero, List.set_cons_succ, List.set_cons_zero]
          refine wpAnyZ_take (i := 1) rfl (by kernel_rfl) (fun _ _ _ h => h) (Or.inl ⟨by rfl, by intro w hSw; obtain ⟨s0, s1, s2, s3⟩ := hSw; go_simp; try with_reducible rfl⟩) HSW.out ?_
          simp only [Act.put, List.setIfInBounds_toArray, List.getElem_toArray, List.getElem_cons_succ, List.getElem_cons_zero, List.set_cons_succ, List.set_cons_zero]
          refine wpAnyZ_take (i := 2) rfl (by kernel_rfl) (fun _ _ _ h => h) (Or.inl ⟨by rfl, by intro w hSw; obtain ⟨s0, s1, s2, s3⟩ := hSw; go_simp; try with_reducible rfl⟩) HSW.out ?_
          simp only [Act.put, List.setIfInBounds_toArray, List.getElem_toArray, List.getElem_cons_succ, List.getElem_cons_zero, List.set_cons_succ, List.set_cons_zero]
          refine wpAnyZ_take (i := 3) rfl (by kernel_rfl) (fun _ _ _ h => h) (Or.inl ⟨by rfl, by intro w hSw; obtain ⟨s0, s1, s2, s3⟩ := hSw; go_simp; try with_reducible rfl⟩) HSW.out ?_
          simp only [Act.put, List.setIfInBounds_toArray, List.getElem_toArray, List.getElem_cons_succ, List.getElem_cons_zero, List.set_cons_succ, List.set_cons_zero]
          refine wpAnyZ_take (i := 4) rfl (by kernel_rfl) (fun _ _ _ h => h) (Or.inl ⟨by rfl, by intro w hSw; obtain ⟨s0, s1, s2, s3⟩ := hSw; go_simp; try with_reducible rfl⟩) HSW.out ?_
          simp only [Act.put, List.setIfInBounds_toArray, List.getElem_toArray, List.getElem_cons_succ, List.getElem_cons_zero, List.set_cons_succ, List.set_cons_zero]
          refine wpAnyZ_take (i := 5) (v := .bool false) rfl (by kernel_rfl) (fun _ _ _ h => h) (Or.inl ⟨by rfl, by intro w hSw; obtain ⟨s0, s1, s2, s3⟩ := hSw; go_simp; try with_reducible rfl⟩) HSW.out ?_
          simp only [Act.put, List.setIfInBounds_toArray, List.getElem_toArray, List.getElem_cons_succ, List.getElem_cons_zero, List.set_cons_succ, List.set_cons_zero]
          refine wpAnyZ_take (i := 6) rfl (by kernel_rfl) (fun _ _ _ h => h) (Or.inl ⟨by rfl, by intro w hSw; obtain ⟨s0, s1, s2, s3⟩ := hSw; go_simp; try with_reducible rfl⟩) HSW.out ?_
          simp only [Act.put, List.setIfInBounds_toArray, List.getElem_toArray, List.getElem_cons_succ, List.getElem_cons_zero, List.set_cons_succ, List.set_cons_zero]
          refine wpAnyZ_take (i := 7) rfl (by kernel_rfl) (fun _ _ _ h => h) (Or.inl ⟨by rfl, by intro w hSw; obtain ⟨s0, s1, s2, s3⟩ := hSw; go_simp; try with_reducible rfl⟩) HSW.out ?_
          simp only [Act.put, List.setIfInBounds_toArray, List.getElem_toArray, List.getElem_cons_succ, List.getElem_cons_zero, List.set_cons_succ, List.set_cons_zero]
          refine wpAnyZ_take (i := 8) rfl (by kernel_rfl) (fun _ _ _ h => h) (Or.inl ⟨by rfl, by intro w hSw; obtain ⟨s0, s1, s2, s3⟩ := hSw; go_simp; try with_reducible rfl⟩) HSW.out ?_
          simp only [Act.put, List.setIfInBounds_toArray, List.getElem_toArray, List.getElem_cons_succ, List.getElem_cons_zero, List.set_cons_succ, List.set_cons_zero]
          refine wpAnyZ_take (i := 9) rfl (by kernel_rfl) (fun _ _ _ h => h) (Or.inl ⟨by rfl, by intro w hSw; obtain ⟨s0, s1, s2, s3⟩ := hSw; go_simp; try with_reducible rfl⟩) HSW.out ?_
          simp only [Act.put, List.setIfInBounds_toArray, List.getElem_toArray, List.getElem_cons_succ, List.getElem_cons_zero, List.set_cons_succ, List.set_cons_zero]
          refine wpAnyZ_take (i := 10) rfl (by kernel_rfl) (fun _ _ _ h => h) (Or.inl ⟨by rfl, by intro w hSw; obtain ⟨s0, s1, s2, s3⟩ := hSw; go_simp; try with_reducible rfl⟩) HSW.out ?_
          simp only [Act.put, List.setIfInBounds_toArray, List.getElem_toArray, List.getElem_cons_succ, List.getElem_cons_zero, List.set_cons_succ, List.set_cons_zero]
          refine wpAnyZ_take (i := 11) rfl (by kernel_rfl) (fun _ _ _ h => h) (Or.inl ⟨by rfl, by intro w hSw; obtain ⟨s0, s1, s2, s3⟩ := hSw; go_simp; try with_reducible rfl⟩) HSW.out ?_
          simp only [Act.put, List.setIfInBounds_toArray, List.getElem_toArray, List.getElem_cons_succ, List.getElem_cons_zero, List.set_cons_succ, List.set_cons_zero]
          refine wpAnyZ_take (i := 12) rfl (by kernel_rfl) (fun _ _ _ h => h) (Or.inl ⟨by rfl, by intro w hSw; obtain ⟨s0, s1, s2, s3⟩ := hSw; go_simp; try with_reducible rfl⟩) HSW.out ?_
          simp only [Act.put, List.setIfInBounds_toArray, List.getElem_toArray, List.getElem_cons_succ, List.getElem_cons_zero, List.set_cons_succ, List.set_cons_zero]
          refine wpAnyZ_take (i := 13) rfl (by kernel_rfl) (fun _ _ _ h => h) (Or.inl ⟨by rfl, by intro w hSw; obtain ⟨s0, s1, s2, s3⟩ := hSw; go_simp; try with_reducible rfl⟩) HSW.out ?_
          simp only [Act.put, List.setIfInBounds_toArray, List.getElem_toArray, List.getElem_cons_succ, List.getElem_cons_zero, List.set_cons_succ, List.set_cons_zero]
          refine wpAnyZ_take (i := 14) (v := .bool false) rfl (by kernel_rfl) (fun _ _ _ h => h) (Or.inl ⟨by rfl, by intro w hSw; obtain ⟨s0, s1, s2, s3⟩ := hSw; go_simp; try with_reducible rfl⟩) HSW.out ?_
          simp only [Act.put, List.setIfInBounds_toArray, List.getElem_toArray, List.getElem_cons_succ, List.getElem_cons_zero, List.set_cons_succ, List.set_cons_zero]
          refine wpAnyZ_take (i := 15) (v := .bool false) rfl (by kernel_rfl) (fun _ _ _ h => h) (Or.inl ⟨by rfl, by intro w hSw; obtain ⟨s0, s1, s2, s3⟩ := hSw; go_simp; try with_reducible rfl⟩) HSW.out ?_
          simp only [Act.put, List.setIfInBounds_toArray, List.getElem_toArray, List.getElem_cons_succ, List.getElem_cons_zero, List.set_cons_succ, List.set_cons_zero]
          refine wpAnyZ_take (i := 16) rfl (by kernel_rfl) (fun _ _ _ h => h) (Or.inl ⟨by rfl, by intro w hSw; obtain ⟨s0, s1, s2, s3⟩ := hSw; go_simp; try with_reducible rfl⟩) HSW.out ?_
          simp only [Act.put, List.setIfInBounds_toArray, List.getElem_toArray, List.getElem_cons_succ, List.getElem_cons_zero, List.set_cons_succ, List.set_cons_zero]
          refine wpAnyZ_take (i := 17) rfl (by kernel_rfl) (fun _ _ _ h => h) (Or.inl ⟨by rfl, by intro w hSw; obtain ⟨s0, s1, s2, s3⟩ := hSw; go_simp; try with_reducible rfl⟩) HSW.out ?_
          simp only [Act.put, List.setIfInBounds_toArray, List.getElem_toArray, List.getElem_cons_succ, List.getElem_cons_zero, List.set_cons_succ, List.set_cons_zero]
          refine wpAnyZ_take (i := 18) rfl (by kernel_rfl) (fun _ _ _ h => h) (Or.inl ⟨by rfl, by intro w hSw; obtain ⟨s0, s1, s2, s3⟩ := hSw; go_simp; try with_reducible rfl⟩) HSW.out ?_
          simp only [Act.put, List.setIfInBounds_toArray, List.getElem_toArray, List.getElem_cons_succ, List.getElem_cons_zero, List.set_cons_succ, List.set_cons_zero]
          refine wpAnyZ_take (i := 19) rfl (by kernel_rfl) (fun _ _ _ h => h) (Or.inl ⟨by rfl, by intro w hSw; obtain ⟨s0, s1, s2, s3⟩ := hSw; go_simp; try with_reducible rfl⟩) HSW.out ?_
          simp only [Act.put, List.setIfInBounds_toArray, List.getElem_toArray, List.getElem_cons_succ, List.getElem_cons_zero, List.set_cons_succ, List.set_cons_zero]
          refine wpAnyZ_take (i := 20) rfl (by kernel_rfl) (fun _ _ _ h => h) (Or.inl ⟨by rfl, by intro w hSw; obtain ⟨s0, s1, s2, s3⟩ := hSw; go_simp; try with_reducible rfl⟩) HSW.out ?_
          simp only [Act.put, List.setIfInBounds_toArray, List.getElem_toArray, List.getElem_cons_succ, List.getElem_cons_zero, List.set_cons_succ, List.set_cons_zero]
          refine wpAnyZ_take (i := 21) rfl (by kernel_rfl) (fun _ _ _ h => h) (Or.inl ⟨by rfl, by intro w hSw; obtain ⟨s0, s1, s2, s3⟩ := hSw; go_simp; try with_reducible rfl⟩) HSW.out ?_
          simp only [Act.put, List.setIfInBounds_toArray, List.getElem_toArray, List.getElem_cons_succ, List.getElem_cons_zero, List.set_cons_succ, List.set_cons_zero]
          refine wpAnyZ_take (i := 22) rfl (by kernel_rfl) (fun _ _ _ h => h) (Or.inl ⟨by rfl, by intro w hSw; obtain ⟨s0, s1, s2, s3⟩ := hSw; go_simp; try with_reducible rfl⟩) HSW.out ?_
          simp only [Act.put, List.setIfInBounds_toArray, List.getElem_toArray, List.getElem_cons_succ, List.getElem_cons_zero, List.set_cons_succ, List.set_cons_zero]
          refine wpAnyZ_take (i := 23) rfl (by kernel_rfl) (fun _ _ _ h => h) (Or.inl ⟨by rfl, by intro w hSw; obtain ⟨s0, s1, s2, s3⟩ := hSw; go_simp; try with_reducible rfl⟩) HSW.out ?_
          simp only [Act.put, List.setIfInBounds_toArray, List.getElem_toArray, List.getElem_cons_succ, List.getElem_cons_zero, List.set_cons_succ, List.set_cons_zero]
          refine wpAnyZ_take (i := 24) rfl (by kernel_rfl) (fun _ _ _ h => h) (Or.inl ⟨by rfl, by intro w hSw; obtain ⟨s0, s1, s2, s3⟩ := hSw; go_simp; try with_reducible rfl⟩) HSW.out ?_
          simp only [Act.put, List.setIfInBounds_toArray, List.getElem_toArray, List.getElem_cons_succ, List.getElem_cons_zero, List.set_cons_succ, List.set_cons_zero]
          refine wpAnyZ_take (i := 25) rfl (by kernel_rfl) (fun _ _ _ h => h) (Or.inl ⟨by rfl, by intro w hSw; obtain ⟨s0, s1, s2, s3⟩ := hSw; go_simp; try with_reducible rfl⟩) HSW.out ?_
          simp only [Act.put, List.setIfInBounds_toArray, List.getElem_toArray, List.getElem_cons_succ, List.getElem_cons_zero, List.set_cons_succ, List.set_cons_zero]
          refine wpAnyZ_one (i := 26) (by kernel_rfl) rfl (fun K hK => ?_)
          try rw [if_pos (by rfl)]
          go_simp
          refine (HSAME.out _ HK0d.out).mono ?_
          rintro e w10 ⟨rfl, hk10⟩
          have HK10 := Lib.hid (HK0d.out.trans hk10)
          have HSX := Lib.hid (And.intro (cell_quiet HSW.out.1 hk10) (And.intro (cell_quiet HSW.out.2.1 hk10) (And.intro (cell_quiet HSW.out.2.2.1 hk10) (cell_quiet HSW.out.2.2.2 hk10))))
          clear hk10
          refine hK.out _ _ (fun _ => HSX.out) ?_
          clear hK K
          try simp only [Act.put, List.setIfInBounds_toArray, Nat.reduceAdd, List.getElem_toArray, List.getElem_cons_succ, List.getElem_cons_zero, List.set_cons_succ, List.set_cons_zero]
          refine wpAnyZ_take (i := 27) rfl (by kernel_rfl) (fun _ _ _ h => h) (Or.inl ⟨by rfl, by intro w hSw; obtain ⟨s0, s1, s2, s3⟩ := hSw; go_simp; try with_reducible rfl⟩) HSX.out ?_
          simp only [Act.put, List.setIfInBounds_toArray, List.getElem_toArray, List.getElem_cons_succ, List.getElem_cons_zero, List.set_cons_succ, List.set_cons_zero]
          refine wpAnyZ_one (i := 28) (by kernel_rfl) rfl (fun K hK => ?_)
          go_simp
          refine hK.out _ _ (fun h => absurd rfl h) ?_
          clear hK K
          refine wpAnyZ_done (by kernel_rfl) ?_ _
          have HKN := Lib.hid (HKW.out.trans HK10.out)
          clear HKW HK10 HSX HSW HK0d HKR HZ HSAME lwn
          go_wp2_with fail
          go_roundw
          case rel => exact ⟨n + 1, Nat.succ_le_of_lt hnl, rfl, HKN.out⟩
          case measure => exact measure_up15 hnl
        · have hnn : n = N := by omega
          subst hnn
          obtain ⟨wm, rfl⟩ : ∃ q, q = wr := ⟨wr, rfl⟩
          have hj : j < n := by rw [HN.out]; omega
          have HLG := Lib.hid (HLG.out.quiet HKW.out)
          have HLM := Lib.hid HLG.out.solo
          obtain ⟨p1, o1, A1, c1, q1, hx1, hF1, y1, r1, g1⟩ := hpw.pick j (by rw [HPL.out]; exact hj)
          injection hx1 with hx1
          injection hx1 with hx1 hx2
          subst hx1 hx2
          have hq1 : q1 = ⟨1, ((j + 1 : Nat) : Int), D⟩ := by
            have h := reqs_at D (n := n) (i := j) hj
            rw [← HPS.out, List.getElem?_map, g1] at h
            injection h
          subst hq1
          obtain ⟨dl, hdl⟩ : ∃ q, q = D.length := ⟨_, rfl⟩
          have z0 : wm.cell? ⟨pX, oX + j * 3, none⟩ = some (.int .i64 1) := y1 0 _ rfl
          have z1 : wm.cell? ⟨pX, oX + j * 3 + 1, none⟩ = some (.int .i64 ((j + 1 : Nat) : Int)) := y1 1 _ rfl
          have z2 : wm.cell? ⟨pX, oX + j * 3 + 2, none⟩ = some (.slice A1 dl c1) := by rw [hdl]; exact y1 2 _ rfl
          have HRD := Lib.hid (show Row wm (fun b => b < wl.heap.size ∧ b ≠ gx ∧ b ≠ mx) 1 (.slice A1 dl c1) dl (u8s D) by rw [hdl]; exact r1)
          rw [← HN.out] at z1
          have j0 : (0 : Int) ≤ (j : Int) := by omega
          have j1 : (j : Int) < (n : Int) := by omega
          have HDL := Lib.hid hdl
          have HDS := Lib.hid (show dl ≤ 8160 by rw [hdl, HD.out]; exact HDB.out)
          clear y1 r1 g1 hdl hpw hF1 hnl hn
          go_upto_region 25 with fail
          obtain ⟨gl, hgl⟩ : ∃ q, q = wm.heap.size := ⟨_, rfl⟩
          rw [← hgl]
          generalize hwa : wm.alloc (.cells #[.int .i64 1, .int .i64 (n : Int), .slice A1 dl c1] 40) = wa
          have hka : Keeps nobody wm wa := by rw [← hwa]; exact (Keeps.refl _ wm).alloc _
          have hbl : Blk wa gl 40 #[.int .i64 1, .int .i64 (n : Int), .slice A1 dl c1] := by rw [← hwa, hgl]; exact Blk.new wm _ _
          have l1 : wa.cell? ⟨gl, 1, none⟩ = some (.int .i64 (n : Int)) := by rw [hbl.cell]; rfl
          have l2 : wa.cell? ⟨gl, 2, none⟩ = some (.slice A1 dl c1) := by rw [hbl.cell]; rfl
          have HL := Lib.hid (And.intro l1 l2)
          have HLG := Lib.hid (HLG.out.quiet hka)
          have HGL := Lib.hid (show gl ≠ gx ∧ gl ≠ mx by have h := HLM.out.lt; omega)
          have HKA := Lib.hid (Keeps.refl nobody wa)
          have HRD := Lib.hid (HRD.out.keeps hka (fun _ _ h => h))
          obtain ⟨Y, hY⟩ : ∃ q, q = y % 250 := ⟨_, rfl⟩
          obtain ⟨Z, hZ⟩ : ∃ q, q = n + 1 + Y := ⟨_, rfl⟩
          obtain ⟨B, hB⟩ : ∃ q, q = Z % 256 := ⟨_, rfl⟩
          have HBN := Lib.hid (show B ≠ n by have := HLN.out; omega)
          have lw1 : IntKind.i64.wrap ((n : Int) + 1) = (n : Int) + 1 := IntWalk.i64_in _ (by have := HLN.out; omega)
          have lw2 : IntKind.i64.wrap (y : Int) = (y : Int) := IntWalk.i64_in _ (by omega)
          have lw3 : (y : Int).tmod 250 = (Y : Int) := by rw [hY]; rfl
          have lw4 : IntKind.i64.wrap (Y : Int) = (Y : Int) := IntWalk.i64_in _ (by omega)
          have lw5 : (n : Int) + 1 + (Y : Int) = (Z : Int) := by omega
          have lw6 : IntKind.i64.wrap (Z : Int) = (Z : Int) := IntWalk.i64_in _ (by have := HLN.out; omega)
          have lw7 : bits .and .i64 (Z : Int) 255 = (B : Int) := by rw [hB]; exact i64_and13 Z (by have := HLN.out; omega)
          have HCPY := Lib.hid (fun (W : World) (k : Keeps nobody wa W) => (show Calls Tryz.prog 22 #[.slice A1 dl c1] W fun e w' => ∃ u, e = .returned u ∧ w'.ownsRow W.heap.size 5 1 u dl (u8s D) ∧ Below W.heap.size W w' from by
            have h := copy_any (fun b => (b < wl.heap.size ∧ b ≠ gx ∧ b ≠ mx) ∧ b < wa.heap.size) (.slice A1 dl c1) D W (by rw [← HDL.out]; exact (HRD.out.strong.keeps k (fun _ _ h => h))) (fun b hb => Nat.lt_of_lt_of_le hb.2 k.size) (by have := HDS.out; rw [← HDL.out]; omega)
            rw [← HDL.out] at h
            exact h))
          have HWS := Lib.hid hka.size
          clear hgl hwa hka hbl l1 l2 hY hZ hB z0 z1 z2
          go_cut [15] (Bad13 wa n B A1 dl c1 (D ++ [yb]))
          case first =>
            refine wp_region_Z (fun w' => w'.cell? ⟨gl, 1, none⟩ = some (.int .i64 (n : Int)) ∧ w'.cell? ⟨gl, 2, none⟩ = some (.slice A1 dl c1)) 21 22 rfl (by kernel_rfl) HL.out (fun hHeld => ?_)
            have HSW := hHeld
            clear hHeld
            have HK0d := Lib.hid (HKA.out.drew)
            refine wpAnyZ_take (i := 0) rfl (by kernel_rfl) (fun _ _ _ h => h) (Or.inl ⟨by rfl, by intro w hSw; obtain ⟨s0, s1⟩ := hSw; go_simp; try with_reducible rfl⟩) HSW.out ?_
            simp only [Act.put, List.setIfInBounds_toArray, List.getElem_toArray, List.getElem_cons_zero, List.set_cons_succ, List.set_cons_zero]
            refine wpAnyZ_take (i := 1) rfl (by kernel_rfl) (fun _ _ _ h => h) (Or.inl ⟨by rfl, by intro w hSw; obtain ⟨s0, s1⟩ := hSw; go_simp; try with_reducible rfl⟩) HSW.out ?_
            simp only [Act.put, List.setIfInBounds_toArray, List.getElem_toArray, List.getElem_cons_succ, List.getElem_cons_zero, List.set_cons_succ, List.set_cons_zero]
            refine wpAnyZ_take (i := 2) (v := .int .i64 ((n : Int) + 1)) rfl (by kernel_rfl) (fun _ _ _ h => h) (Or.inl ⟨by rfl, by intro w hSw; obtain ⟨s0, s1⟩ := hSw; go_simp; try with_reducible rfl⟩) HSW.out ?_
            simp only [Act.put, List.setIfInBounds_toArray, List.getElem_toArray, List.getElem_cons_succ, List.getElem_cons_zero, List.set_cons_succ, List.set_cons_zero]
            refine wpAnyZ_take (i := 3) rfl (by kernel_rfl) (fun _ _ _ h => h) (Or.inl ⟨by rfl, by intro w hSw; obtain ⟨s0, s1⟩ := hSw; go_simp; try with_reducible rfl⟩) HSW.out ?_
            simp only [Act.put, List.setIfInBounds_toArray, List.getElem_toArray, List.getElem_cons_succ, List.getElem_cons_zero, List.set_cons_succ, List.set_cons_zero]
            refine wpAnyZ_take (i := 4) (v := .int .i64 (y : Int)) rfl (by kernel_rfl) (fun _ _ _ h => h) (Or.inl ⟨by rfl, by intro w hSw; obtain ⟨s0, s1⟩ := hSw; go_simp; try with_reducible rfl⟩) HSW.out ?_
            simp only [Act.put, List.setIfInBounds_toArray, List.getElem_toArray, List.getElem_cons_succ, List.getElem_cons_zero, List.set_cons_succ, List.set_cons_zero]
            refine wpAnyZ_take (i := 5) (v := .int .i64 (Y : Int)) rfl (by kernel_rfl) (fun _ _ _ h => h) (Or.inl ⟨by rfl, by intro w hSw; obtain ⟨s0, s1⟩ := hSw; go_simp; try with_reducible rfl⟩) HSW.out ?_
            simp only [Act.put, List.setIfInBounds_toArray, List.getElem_toArray, List.getElem_cons_succ, List.getElem_cons_zero, List.set_cons_succ, List.set_cons_zero]
            refine wpAnyZ_take (i := 6) (v := .int .i64 (Z : Int)) rfl (by kernel_rfl) (fun _ _ _ h => h) (Or.inl ⟨by rfl, by intro w hSw; obtain ⟨s0, s1⟩ := hSw; go_simp; try with_reducible rfl⟩) HSW.out ?_
            simp only [Act.put, List.setIfInBounds_toArray, List.getElem_toArray, List.getElem_cons_succ, List.getElem_cons_zero, List.set_cons_succ, List.set_cons_zero]
            refine wpAnyZ_take (i := 7) (v := .int .i64 (B : Int)) rfl (by kernel_rfl) (fun _ _ _ h => h) (Or.inl ⟨by rfl, by intro w hSw; obtain ⟨s0, s1⟩ := hSw; go_simp; try with_reducible rfl⟩) HSW.out ?_
            simp only [Act.put, List.setIfInBounds_toArray, List.getElem_toArray, List.getElem_cons_succ, List.getElem_cons_zero, List.set_cons_succ, List.set_cons_zero]
            refine wpAnyZ_take (i := 8) rfl (by kernel_rfl) (fun _ _ _ h => h) (Or.inl ⟨by rfl, by intro w hSw; obtain ⟨s0, s1⟩ := hSw; go_simp; try with_reducible rfl⟩) HSW.out ?_
            simp only [Act.put, List.setIfInBounds_toArray, List.getElem_toArray, List.getElem_cons_succ, List.getElem_cons_zero, List.set_cons_succ, List.set_cons_zero]
            refine wpAnyZ_take (i := 9) rfl (by kernel_rfl) (fun _ _ _ h => h) (Or.inl ⟨by rfl, by intro w hSw; obtain ⟨s0, s1⟩ := hSw; go_simp; try with_reducible rfl⟩) HSW.out ?_
            simp only [Act.put, List.setIfInBounds_toArray, List.getElem_toArray, List.getElem_cons_succ, List.getElem_cons_zero, List.set_cons_succ, List.set_cons_zero]
            refine wpAnyZ_take (i := 10) rfl (by kernel_rfl) (fun _ _ _ h => h) (Or.inl ⟨by rfl, by intro w hSw; obtain ⟨s0, s1⟩ := hSw; go_simp; try with_reducible rfl⟩) HSW.out ?_
            simp only [Act.put, List.setIfInBounds_toArray, List.getElem_toArray, List.getElem_cons_succ, List.getElem_cons_zero, List.set_cons_succ, List.set_cons_zero]
            refine wpAnyZ_take (i := 11) rfl (by kernel_rfl) (fun _ _ _ h => h) (Or.inl ⟨by rfl, by intro w hSw; obtain ⟨s0, s1⟩ := hSw; go_simp; try with_reducible rfl⟩) HSW.out ?_
            simp only [Act.put, List.setIfInBounds_toArray, List.getElem_toArray, List.getElem_cons_succ, List.getElem_cons_zero, List.set_cons_succ, List.set_cons_zero]
            refine wpAnyZ_take (i := 12) rfl (by kernel_rfl) (fun _ _ _ h => h) (Or.inl ⟨by rfl, by intro w hSw; obtain ⟨s0, s1⟩ := hSw; go_simp; try with_reducible rfl⟩) HSW.out ?_
            simp only [Act.put, List.setIfInBounds_toArray, List.getElem_toArray, List.getElem_cons_succ, List.getElem_cons_zero, List.set_cons_succ, List.set_cons_zero]
            refine wpAnyZ_take (i := 13) rfl (by kernel_rfl) (fun _ _ _ h => h) (Or.inl ⟨by rfl, by intro w hSw; obtain ⟨s0, s1⟩ := hSw; go_simp; try with_reducible rfl⟩) HSW.out ?_
            simp only [Act.put, List.setIfInBounds_toArray, List.getElem_toArray, List.getElem_cons_succ, List.getElem_cons_zero, List.set_cons_succ, List.set_cons_zero]
            refine wpAnyZ_take (i := 14) rfl (by kernel_rfl) (fun _ _ _ h => h) (Or.inl ⟨by rfl, by intro w hSw; obtain ⟨s0, s1⟩ := hSw; go_simp; try with_reducible rfl⟩) HSW.out ?_
            simp only [Act.put, List.setIfInBounds_toArray, List.getElem_toArray, List.getElem_cons_succ, List.getElem_cons_zero, List.set_cons_succ, List.set_cons_zero]
            refine wpAnyZ_take (i := 16) rfl (by kernel_rfl) (fun _ _ _ h => h) (Or.inl ⟨by rfl, by intro w hSw; obtain ⟨s0, s1⟩ := hSw; go_simp; try with_reducible rfl⟩) HSW.out ?_
            simp only [Act.put, List.setIfInBounds_toArray, List.getElem_toArray, List.getElem_cons_succ, List.getElem_cons_zero, List.set_cons_succ, List.set_cons_zero]
            refine wpAnyZ_two (i := 15) (j := 17) (by kernel_rfl) rfl rfl (fun K hK => ?_) (fun K hK => ?_)
            · try rw [if_pos (by rfl)]
              go_simp
              refine (HCPY.out _ HK0d.out).mono ?_
              rintro e wc ⟨u, rfl, hown, hbel⟩
              obtain ⟨AC, cC, rfl⟩ := own_form hown
              have HKC := Lib.hid ((HK0d.out).trans (Keeps.new hbel))
              have HOW := Lib.hid hown
              have HNW := Lib.hid (Keeps.new hbel)
              have HSC := Lib.hid (And.intro (cell_quiet HSW.out.1 HNW.out) (cell_quiet HSW.out.2 HNW.out))
              clear hown hbel
              refine hK.out _ _ (fun _ => HSC.out) ?_
              clear hK K
              try simp only [Act.put, List.setIfInBounds_toArray, Nat.reduceAdd, List.getElem_toArray, List.getElem_cons_succ, List.getElem_cons_zero, List.set_cons_succ, List.set_cons_zero]
              refine wpAnyZ_one (i := 17) (by kernel_rfl) rfl (fun K hK => ?_)
              try rw [if_pos (by rfl)]
              go_simp
              obtain ⟨bq, hbq⟩ : ∃ q, q = wc.heap.size := ⟨_, rfl⟩
              obtain ⟨wb, hwb⟩ : ∃ q, q = (wc.alloc (.cells #[.int .u8 (y : Int)] 5)) := ⟨_, rfl⟩
              try rw [show wc.heap.size = bq from hbq.symm]
              try rw [← hwb]
              have HKB1 := Lib.hid (show Keeps nobody wc wb by rw [hwb]; exact ((Keeps.refl _ _).alloc _))
              have HKB := Lib.hid ((HKC.out).trans HKB1.out)
              have HBY := Lib.hid (show Row wb (fun b => b = bq) 1 (.slice (some ⟨bq, 0, none⟩) 1 1) [yb].length (u8s [yb]) by rw [hwb, hbq]; exact row_new wc [yb] _ 1 (by rw [HYB.out]; rfl) rfl (by simp))
              have HSB := Lib.hid (And.intro (cell_quiet (w := wc) HSC.out.1 HKB1.out) (cell_quiet (w := wc) HSC.out.2 HKB1.out))
              clear hbq hwb
              refine hK.out _ _ (fun _ => HSB.out) ?_
              clear hK K
              try simp only [Act.put, List.setIfInBounds_toArray, Nat.reduceAdd, List.getElem_toArray, List.getElem_cons_succ, List.getElem_cons_zero, List.set_cons_succ, List.set_cons_zero]
              refine wpAnyZ_one (i := 18) (by kernel_rfl) rfl (fun K hK => ?_)
              rw [if_pos (by rfl)]
              have HOWF := Lib.hid (ownsRow_keeps HOW.out HKB1.out (fun _ _ h => h))
              have HBYF := HBY
              have HKF := HKB
              have HBSF := Lib.hid (show wa.heap.size ≤ wa.drew.heap.size ∧ wa.drew.heap.size ≤ wb.heap.size from ⟨Nat.le_refl _, HKB.out.size⟩)
              refine wpo_append_u8 (.tmp 114) (.tmp 116) rfl _ (.slice AC dl cC) dl D HDL.out.symm rfl HOWF.out _ (.slice (some ⟨bq, 0, none⟩) 1 1) [yb] rfl HBYF.out (by have := HDS.out; simp; omega) HBSF.out.2 ?_
              intro v13 w13 hown13 hg13 _
              have hl13 : (D ++ [yb]).length = dl + 1 := by rw [List.length_append, ← HDL.out]; rfl
              rw [hl13] at hown13
              obtain ⟨AE, cE, rfl⟩ := own_form hown13
              have HK13 := Lib.hid (HKF.out.trans' ((Keeps.refl (fun b => (Value.slice AC dl cC).ownBlock = some b) _).grown hg13 (fun _ e _ => e)) (fun i hi hl => by have := ownsRow_ge HOWF.out i hi; have := HBSF.out.1; omega))
              have HR13 := Lib.hid ((Row.of_own hown13).strong.mono (G := fun b => wa.heap.size ≤ b ∧ b < w13.heap.size) (fun b hb => ⟨Nat.le_trans HBSF.out.1 (ownsRow_ge hown13 b hb.1), hb.2⟩))
              have HS13 := Lib.hid (And.intro (cell_quiet HL.out.1 HK13.out) (cell_quiet HL.out.2 HK13.out))
              clear hown13 hg13 hl13 HOWF HBYF HKF HBSF HBY HOW HKB HKB1 HKC HNW HSB HSC
              refine hK.out _ _ (fun _ => HS13.out) ?_
              clear hK K
              try simp only [Act.put, List.setIfInBounds_toArray, List.getElem_toArray, List.getElem_cons_succ, List.getElem_cons_zero, List.set_cons_succ, List.set_cons_zero]
              refine wpAnyZ_take (i := 19) rfl (by kernel_rfl) (fun _ _ _ h => h) (Or.inl ⟨by rfl, by intro w hSw; obtain ⟨s0, s1⟩ := hSw; go_simp; try with_reducible rfl⟩) HS13.out ?_
              simp only [Act.put, List.setIfInBounds_toArray, List.getElem_toArray, List.getElem_cons_succ, List.getElem_cons_zero, List.set_cons_succ, List.set_cons_zero]
              refine wpAnyZ_one (i := 20) (by kernel_rfl) rfl (fun K hK => ?_)
              try rw [if_pos (by rfl)]
              go_simp
              obtain ⟨gb, hgb⟩ : ∃ q, q = w13.heap.size := ⟨_, rfl⟩
              obtain ⟨w14, hw14⟩ : ∃ q, q = w13.alloc (.cells #[.int .i64 2, .int .i64 (B : Int), .slice A1 dl c1, .int .i64 2, .int .i64 (n : Int), .slice AE (dl + 1) cE] 40) := ⟨_, rfl⟩
              try rw [show w13.heap.size = gb from hgb.symm]
              try rw [← hw14]
              have hk14 : Keeps nobody w13 w14 := by rw [hw14]; exact (Keeps.refl _ _).alloc _
              have HB14 := Lib.hid (show Blk w14 gb 40 #[.int .i64 2, .int .i64 (B : Int), .slice A1 dl c1, .int .i64 2, .int .i64 (n : Int), .slice AE (dl + 1) cE] by rw [hw14, hgb]; exact Blk.new _ _ _)
              have HK14 := Lib.hid (HK13.out.trans hk14)
              have HR14 := Lib.hid ((HR13.out.keeps hk14 (fun _ _ h => h)).mono (G := fun b => wa.heap.size ≤ b ∧ b < w14.heap.size) (fun b hb => ⟨hb.1, Nat.lt_of_lt_of_le hb.2 hk14.size⟩))
              have HGB := Lib.hid (show wa.heap.size ≤ gb by rw [hgb]; exact HK13.out.size)
              have HS14 := Lib.hid (And.intro (cell_quiet HS13.out.1 hk14) (cell_quiet HS13.out.2 hk14))
              clear hgb hw14 hk14 HK13 HR13 HS13
              refine hK.out _ _ (fun _ => HS14.out) ?_
              clear hK K
              try simp only [Act.put, List.setIfInBounds_toArray, Nat.reduceAdd, List.getElem_toArray, List.getElem_cons_succ, List.getElem_cons_zero, List.set_cons_succ, List.set_cons_zero]
              refine wpAnyZ_one (i := 21) (by kernel_rfl) rfl (fun K hK => ?_)
              go_simp
              refine hK.out _ _ (fun h => absurd rfl h) ?_
              clear hK K
              refine wpAnyZ_done (by kernel_rfl) ?_ _
              go_wp2_with fail
              go_meet
              exact ⟨gb, AE, cE, rfl, HB14.out, HK14.out, HR14.out, HGB.out⟩
            · try rw [if_pos (by rfl)]
              go_simp
              obtain ⟨bq, hbq⟩ : ∃ q, q = wa.heap.size := ⟨_, rfl⟩
              obtain ⟨wb, hwb⟩ : ∃ q, q = (wa.alloc (.cells #[.int .u8 (y : Int)] 5)).drew := ⟨_, rfl⟩
              try rw [show wa.heap.size = bq from hbq.symm]
              try rw [← hwb]
              have HKB1 := Lib.hid (show Keeps nobody wa wb by rw [hwb]; exact ((Keeps.refl _ _).alloc _).drew)
              have HKB := Lib.hid ((HKA.out).trans HKB1.out)
              have HBY := Lib.hid (show Row wb (fun b => b = bq) 1 (.slice (some ⟨bq, 0, none⟩) 1 1) [yb].length (u8s [yb]) by rw [hwb, hbq]; exact row_new wa [yb] _ 1 (by rw [HYB.out]; rfl) rfl (by simp))
              have HSB := Lib.hid (And.intro (cell_quiet (w := wa) HSW.out.1 HKB1.out) (cell_quiet (w := wa) HSW.out.2 HKB1.out))
              clear hbq hwb
              refine hK.out _ _ (fun _ => HSB.out) ?_
              clear hK K
              try simp only [Act.put, List.setIfInBounds_toArray, Nat.reduceAdd, List.getElem_toArray, List.getElem_cons_succ, List.getElem_cons_zero, List.set_cons_succ, List.set_cons_zero]
              refine wpAnyZ_one (i := 15) (by kernel_rfl) rfl (fun K hK => ?_)
              try rw [if_pos (by rfl)]
              go_simp
              refine (HCPY.out _ HKB.out).mono ?_
              rintro e wc ⟨u, rfl, hown, hbel⟩
              obtain ⟨AC, cC, rfl⟩ := own_form hown
              have HKC := Lib.hid ((HKB.out).trans (Keeps.new hbel))
              have HOW := Lib.hid hown
              have HNW := Lib.hid (Keeps.new hbel)
              have HSC := Lib.hid (And.intro (cell_quiet HSB.out.1 HNW.out) (cell_quiet HSB.out.2 HNW.out))
              clear hown hbel
              refine hK.out _ _ (fun _ => HSC.out) ?_
              clear hK K
              try simp only [Act.put, List.setIfInBounds_toArray, Nat.reduceAdd, List.getElem_toArray, List.getElem_cons_succ, List.getElem_cons_zero, List.set_cons_succ, List.set_cons_zero]
              refine wpAnyZ_one (i := 18) (by kernel_rfl) rfl (fun K hK => ?_)
              rw [if_pos (by rfl)]
              have HOWF := HOW
              have HBYF := Lib.hid (HBY.out.keeps HNW.out (fun _ _ h => h))
              have HKF := HKC
              have HBSF := Lib.hid (show wa.heap.size ≤ wb.heap.size ∧ wb.heap.size ≤ wc.heap.size from ⟨HKB.out.size, HNW.out.size⟩)
              refine wpo_append_u8 (.tmp 114) (.tmp 116) rfl _ (.slice AC dl cC) dl D HDL.out.symm rfl HOWF.out _ (.slice (some ⟨bq, 0, none⟩) 1 1) [yb] rfl HBYF.out (by have := HDS.out; simp; omega) HBSF.out.2 ?_
              intro v13 w13 hown13 hg13 _
              have hl13 : (D ++ [yb]).length = dl + 1 := by rw [List.length_append, ← HDL.out]; rfl
              rw [hl13] at hown13
              obtain ⟨AE, cE, rfl⟩ := own_form hown13
              have HK13 := Lib.hid (HKF.out.trans' ((Keeps.refl (fun b => (Value.slice AC dl cC).ownBlock = some b) _).grown hg13 (fun _ e _ => e)) (fun i hi hl => by have := ownsRow_ge HOWF.out i hi; have := HBSF.out.1; omega))
              have HR13 := Lib.hid ((Row.of_own hown13).strong.mono (G := fun b => wa.heap.size ≤ b ∧ b < w13.heap.size) (fun b hb => ⟨Nat.le_trans HBSF.out.1 (ownsRow_ge hown13 b hb.1), hb.2⟩))
              have HS13 := Lib.hid (And.intro (cell_quiet HL.out.1 HK13.out) (cell_quiet HL.out.2 HK13.out))
              clear hown13 hg13 hl13 HOWF HBYF HKF HBSF HBY HOW HKB HKB1 HKC HNW HSB HSC
              refine hK.out _ _ (fun _ => HS13.out) ?_
              clear hK K
              try simp only [Act.put, List.setIfInBounds_toArray, List.getElem_toArray, List.getElem_cons_succ, List.getElem_cons_zero, List.set_cons_succ, List.set_cons_zero]
              refine wpAnyZ_take (i := 19) rfl (by kernel_rfl) (fun _ _ _ h => h) (Or.inl ⟨by rfl, by intro w hSw; obtain ⟨s0, s1⟩ := hSw; go_simp; try with_reducible rfl⟩) HS13.out ?_
              simp only [Act.put, List.setIfInBounds_toArray, List.getElem_toArray, List.getElem_cons_succ, List.getElem_cons_zero, List.set_cons_succ, List.set_cons_zero]
              refine wpAnyZ_one (i := 20) (by kernel_rfl) rfl (fun K hK => ?_)
              try rw [if_pos (by rfl)]
              go_simp
              obtain ⟨gb, hgb⟩ : ∃ q, q = w13.heap.size := ⟨_, rfl⟩
              obtain ⟨w14, hw14⟩ : ∃ q, q = w13.alloc (.cells #[.int .i64 2, .int .i64 (B : Int), .slice A1 dl c1, .int .i64 2, .int .i64 (n : Int), .slice AE (dl + 1) cE] 40) := ⟨_, rfl⟩
              try rw [show w13.heap.size = gb from hgb.symm]
              try rw [← hw14]
              have hk14 : Keeps nobody w13 w14 := by rw [hw14]; exact (Keeps.refl _ _).alloc _
              have HB14 := Lib.hid (show Blk w14 gb 40 #[.int .i64 2, .int .i64 (B : Int), .slice A1 dl c1, .int .i64 2, .int .i64 (n : Int), .slice AE (dl + 1) cE] by rw [hw14, hgb]; exact Blk.new _ _ _)
              have HK14 := Lib.hid (HK13.out.trans hk14)
              have HR14 := Lib.hid ((HR13.out.keeps hk14 (fun _ _ h => h)).mono (G := fun b => wa.heap.size ≤ b ∧ b < w14.heap.size) (fun b hb => ⟨hb.1, Nat.lt_of_lt_of_le hb.2 hk14.size⟩))
              have HGB := Lib.hid (show wa.heap.size ≤ gb by rw [hgb]; exact HK13.out.size)
              have HS14 := Lib.hid (And.intro (cell_quiet HS13.out.1 hk14) (cell_quiet HS13.out.2 hk14))
              clear hgb hw14 hk14 HK13 HR13 HS13
              refine hK.out _ _ (fun _ => HS14.out) ?_
              clear hK K
              try simp only [Act.put, List.setIfInBounds_toArray, Nat.reduceAdd, List.getElem_toArray, List.getElem_cons_succ, List.getElem_cons_zero, List.set_cons_succ, List.set_cons_zero]
              refine wpAnyZ_one (i := 21) (by kernel_rfl) rfl (fun K hK => ?_)
              go_simp
              refine hK.out _ _ (fun h => absurd rfl h) ?_
              clear hK K
              refine wpAnyZ_done (by kernel_rfl) ?_ _
              go_wp2_with fail
              go_meet
              exact ⟨gb, AE, cE, rfl, HB14.out, HK14.out, HR14.out, HGB.out⟩
          case rest =>
          obtain ⟨gb, AE, cE, hv15, hb14, hk14, hr14, hgb⟩ := hcut
          subst hv15
          have HB := Lib.hid hb14
          have HR := Lib.hid (hr14.mono (G := fun b => wa.heap.size ≤ b) (fun b hb => hb.1))
          have HS := Lib.hid (HLG.out.solo.quiet hk14)
          have hlm := HLM.out.lt
          have HGE := Lib.hid (show gb ≠ gx ∧ gb ≠ mx by have := HWS.out; omega)
          have HRD := Lib.hid (HRD.out.keeps hk14 (fun _ _ h => h))
          have HLC := Lib.hid (And.intro (cell_quiet HL.out.1 hk14) (cell_quiet HL.out.2 hk14))
          have HK14 := Lib.hid hk14.size
          have HDN := Lib.hid (show n = j + 1 from HN.out)
          have HOUR := Lib.hid HD.out
          have HDK := Lib.hid (show NSolo w wc gx mx (dk ask j 0) from HS.out)
          have HGX0 := Lib.hid (show gx < wa.heap.size ∧ mx < wa.heap.size by have := HWS.out; omega)
          clear hb14 hk14 hr14 hgb hlm HLG HLM HL HKA HCPY lw1 lw2 lw3 lw4 lw5 lw6 lw7 HS HKW HPR HPS HPL
          obtain ⟨wv, rfl⟩ : ∃ q, q = wc := ⟨wc, rfl⟩
          have c0 : wv.cell? ⟨gb, 0, none⟩ = some (.int .i64 2) := by rw [HB.out.cell]; rfl
          have c1' : wv.cell? ⟨gb, 1, none⟩ = some (.int .i64 (B : Int)) := by rw [HB.out.cell]; rfl
          have c2 : wv.cell? ⟨gb, 2, none⟩ = some (.slice A1 dl c1) := by rw [HB.out.cell]; rfl
          have c3 : wv.cell? ⟨gb, 3, none⟩ = some (.int .i64 2) := by rw [HB.out.cell]; rfl
          have c4 : wv.cell? ⟨gb, 4, none⟩ = some (.int .i64 (n : Int)) := by rw [HB.out.cell]; rfl
          have c5 : wv.cell? ⟨gb, 5, none⟩ = some (.slice AE (dl + 1) cE) := by rw [HB.out.cell]; rfl
          have l1 := HLC.out.1
          have l2 := HLC.out.2
          have bne : ((B : Int) == (n : Int)) = false := by rw [beq_eq_false_iff_ne]; have := HBN.out; omega
          have HGX := Lib.hid (show gx < wa.heap.size ∧ mx < wa.heap.size from HGX0.out)
          clear HB HLC
          go_wp2_with fail
          refine wp_loop_rounds 3 ?_
          rw [rounds_succ]
          go_wp2_with fail
          go_quiet (fail)
          have HQ := Lib.hid (show Keeps nobody wv (wv.drewN nq) from Keeps.of_drewN rfl)
          have c0 := cell_quiet c0 HQ.out
          have c1' := cell_quiet c1' HQ.out
          have c2 := cell_quiet c2 HQ.out
          have c3 := cell_quiet c3 HQ.out
          have c4 := cell_quiet c4 HQ.out
          have c5 := cell_quiet c5 HQ.out
          have l1 := cell_quiet l1 HQ.out
          have l2 := cell_quiet l2 HQ.out
          have HDK := Lib.hid (HDK.out.quiet HQ.out)
          have HR := Lib.hid (HR.out.keeps HQ.out (fun _ _ h => h))
          have HRD := Lib.hid (HRD.out.keeps HQ.out (fun _ _ h => h))
          generalize wv.drewN nq = ws at c0 c1' c2 c3 c4 c5 l1 l2 HDK HR HRD ⊢
          clear HQ
          have HDR := Lib.hid (show Calls Tryz.prog 23 #[.pointer (some ⟨gx, 0, none⟩)] ws fun e w' => e = .returned (.int .i64 0) ∧ ws = w' from HDK.out.drops)
          have HIN := Lib.hid (show Calls Tryz.prog 15 #[.pointer (some ⟨gx, 0, none⟩), .agg #[.int .i64 2, .int .i64 (B : Int), .slice A1 dl c1]] ws fun r w' => ∃ sv, r = .returned (.agg #[sv, .bool false, .bool false, .bool false, .bool false]) ∧ NSolo w w' gx mx (dk ask j 1) ∧ Posts ws w' sv [] ∧ Keeps (fun b => b = gx ∨ b = mx) ws w' from HDK.out.hears (F := fun b => (b < wl.heap.size ∧ b ≠ gx ∧ b ≠ mx) ∧ b < ws.heap.size) (.slice A1 dl c1) ⟨2, (B : Int), D⟩ (by show Row ws _ 1 _ D.length _; rw [← HDL.out]; exact HRD.out.strong) (fun b hb => ⟨hb.2, hb.1.2.1, hb.1.2.2⟩) (Nat.zero_le _) (Nat.zero_le _) (show 0 ≤ 1000000 by decide) (dk_other ask j 0 (B : Int) D (by have := HBN.out; have := HDN.out; omega)))
          go_wp2_with fail
          refine HDR.out.mono ?_
          rintro e w' ⟨rfl, rfl⟩
          clear HDR
          go_wp2_with fail
          refine HIN.out.mono ?_
          rintro e wi ⟨sv, rfl, hso, hpo, hki⟩
          obtain ⟨AI, cI, hsv⟩ := hpo.form
          have hsv : sv = .slice AI 0 cI := hsv
          subst hsv
          have c0 := cell_two hki HGE.out.1 HGE.out.2 c0
          have c1' := cell_two hki HGE.out.1 HGE.out.2 c1'
          have c2 := cell_two hki HGE.out.1 HGE.out.2 c2
          have c3 := cell_two hki HGE.out.1 HGE.out.2 c3
          have c4 := cell_two hki HGE.out.1 HGE.out.2 c4
          have c5 := cell_two hki HGE.out.1 HGE.out.2 c5
          have l1 := cell_two hki HGL.out.1 HGL.out.2 l1
          have l2 := cell_two hki HGL.out.1 HGL.out.2 l2
          have HRD := Lib.hid (HRD.out.keeps hki (fun b hb e => e.elim hb.2.1 hb.2.2))
          have HR := Lib.hid (HR.out.keeps hki (fun b hb e => by have := HGX.out; rcases e with e | e <;> omega))
          obtain ⟨gz, hgz⟩ : ∃ q, q = wi.heap.size := ⟨_, rfl⟩
          go_upto_region 32 with fail
          rw [← hgz]
          generalize hwz : wi.alloc (.cells #[.slice AI 0 cI, .bool false, .bool false, .bool false, .bool false] 37) = wz
          have hkz : Keeps nobody wi wz := by rw [← hwz]; exact (Keeps.refl _ wi).alloc _
          have o0 : wz.cell? ⟨gz, 0, none⟩ = some (.slice AI 0 cI) := by rw [← hwz, hgz, (Blk.new wi _ _).cell]; rfl
          have c0 := cell_quiet c0 hkz
          have c1' := cell_quiet c1' hkz
          have c2 := cell_quiet c2 hkz
          have c3 := cell_quiet c3 hkz
          have c4 := cell_quiet c4 hkz
          have c5 := cell_quiet c5 hkz
          have l1 := cell_quiet l1 hkz
          have l2 := cell_quiet l2 hkz
          have HDK := Lib.hid (hso.quiet hkz)
          have HRD := Lib.hid (HRD.out.keeps hkz (fun _ _ h => h))
          have HR := Lib.hid (HR.out.keeps hkz (fun _ _ h => h))
          have HST := Lib.hid (show Calls Tryz.prog 16 #[.pointer (some ⟨gx, 0, none⟩)] wz fun e w' => e = .returned (.int .i64 6) ∧ wz = w' from HDK.out.state)
          have HDR := Lib.hid (show Calls Tryz.prog 23 #[.pointer (some ⟨gx, 0, none⟩)] wz fun e w' => e = .returned (.int .i64 1) ∧ wz = w' from HDK.out.drops)
          clear hso hpo hki hgz hwz hkz HIN
          go_wp2_with fail
          refine HST.out.mono ?_
          rintro e w' ⟨rfl, rfl⟩
          go_wp2_with fail
          refine HDR.out.mono ?_
          rintro e w' ⟨rfl, rfl⟩
          clear HST HDR
          go_wp2_with fail
          clear o0
          obtain ⟨wv, rfl⟩ : ∃ q, q = wz := ⟨wz, rfl⟩
          rw [rounds_succ]
          go_wp2_with fail
          go_quiet (fail)
          have HQ := Lib.hid (show Keeps nobody wv (wv.drewN nq) from Keeps.of_drewN rfl)
          have c0 := cell_quiet c0 HQ.out
          have c1' := cell_quiet c1' HQ.out
          have c2 := cell_quiet c2 HQ.out
          have c3 := cell_quiet c3 HQ.out
          have c4 := cell_quiet c4 HQ.out
          have c5 := cell_quiet c5 HQ.out
          have l1 := cell_quiet l1 HQ.out
          have l2 := cell_quiet l2 HQ.out
          have HDK := Lib.hid (HDK.out.quiet HQ.out)
          have HR := Lib.hid (HR.out.keeps HQ.out (fun _ _ h => h))
          have HRD := Lib.hid (HRD.out.keeps HQ.out (fun _ _ h => h))
          generalize wv.drewN nq = ws at c0 c1' c2 c3 c4 c5 l1 l2 HDK HR HRD ⊢
          clear HQ
          have HDR := Lib.hid (show Calls Tryz.prog 23 #[.pointer (some ⟨gx, 0, none⟩)] ws fun e w' => e = .returned (.int .i64 1) ∧ ws = w' from HDK.out.drops)
          have HIN := Lib.hid (show Calls Tryz.prog 15 #[.pointer (some ⟨gx, 0, none⟩), .agg #[.int .i64 2, .int .i64 (n : Int), .slice AE (dl + 1) cE]] ws fun r w' => ∃ sv, r = .returned (.agg #[sv, .bool false, .bool false, .bool false, .bool false]) ∧ NSolo w w' gx mx (dk ask j 2) ∧ Posts ws w' sv [] ∧ Keeps (fun b => b = gx ∨ b = mx) ws w' from HDK.out.hears (F := fun b => wa.heap.size ≤ b ∧ b < ws.heap.size) (.slice AE (dl + 1) cE) ⟨2, (n : Int), D ++ [yb]⟩ (by show Row ws _ 1 _ (D ++ [yb]).length _; rw [List.length_append, ← HDL.out]; exact HR.out.strong) (fun b hb => ⟨hb.2, by have := HGX.out; have := hb.1; omega, by have := HGX.out; have := hb.1; omega⟩) (Nat.zero_le _) (Nat.zero_le _) (show 1 ≤ 1000000 by decide) (dk_changed ask j 1 (n : Int) (D ++ [yb]) (by rw [← HOUR.out]; exact snoc_ne D yb)))
          go_wp2_with fail
          refine HDR.out.mono ?_
          rintro e w' ⟨rfl, rfl⟩
          clear HDR
          go_wp2_with fail
          refine HIN.out.mono ?_
          rintro e wi ⟨sv, rfl, hso, hpo, hki⟩
          obtain ⟨AI, cI, hsv⟩ := hpo.form
          have hsv : sv = .slice AI 0 cI := hsv
          subst hsv
          have c0 := cell_two hki HGE.out.1 HGE.out.2 c0
          have c1' := cell_two hki HGE.out.1 HGE.out.2 c1'
          have c2 := cell_two hki HGE.out.1 HGE.out.2 c2
          have c3 := cell_two hki HGE.out.1 HGE.out.2 c3
          have c4 := cell_two hki HGE.out.1 HGE.out.2 c4
          have c5 := cell_two hki HGE.out.1 HGE.out.2 c5
          have l1 := cell_two hki HGL.out.1 HGL.out.2 l1
          have l2 := cell_two hki HGL.out.1 HGL.out.2 l2
          have HRD := Lib.hid (HRD.out.keeps hki (fun b hb e => e.elim hb.2.1 hb.2.2))
          have HR := Lib.hid (HR.out.keeps hki (fun b hb e => by have := HGX.out; rcases e with e | e <;> omega))
          obtain ⟨gz, hgz⟩ : ∃ q, q = wi.heap.size := ⟨_, rfl⟩
          go_upto_region 32 with fail
          rw [← hgz]
          generalize hwz : wi.alloc (.cells #[.slice AI 0 cI, .bool false, .bool false, .bool false, .bool false] 37) = wz
          have hkz : Keeps nobody wi wz := by rw [← hwz]; exact (Keeps.refl _ wi).alloc _
          have o0 : wz.cell? ⟨gz, 0, none⟩ = some (.slice AI 0 cI) := by rw [← hwz, hgz, (Blk.new wi _ _).cell]; rfl
          have c0 := cell_quiet c0 hkz
          have c1' := cell_quiet c1' hkz
          have c2 := cell_quiet c2 hkz
          have c3 := cell_quiet c3 hkz
          have c4 := cell_quiet c4 hkz
          have c5 := cell_quiet c5 hkz
          have l1 := cell_quiet l1 hkz
          have l2 := cell_quiet l2 hkz
          have HDK := Lib.hid (hso.quiet hkz)
          have HRD := Lib.hid (HRD.out.keeps hkz (fun _ _ h => h))
          have HR := Lib.hid (HR.out.keeps hkz (fun _ _ h => h))
          have HST := Lib.hid (show Calls Tryz.prog 16 #[.pointer (some ⟨gx, 0, none⟩)] wz fun e w' => e = .returned (.int .i64 6) ∧ wz = w' from HDK.out.state)
          have HDR := Lib.hid (show Calls Tryz.prog 23 #[.pointer (some ⟨gx, 0, none⟩)] wz fun e w' => e = .returned (.int .i64 2) ∧ wz = w' from HDK.out.drops)
          clear hso hpo hki hgz hwz hkz HIN
          go_wp2_with fail
          refine HST.out.mono ?_
          rintro e w' ⟨rfl, rfl⟩
          go_wp2_with fail
          refine HDR.out.mono ?_
          rintro e w' ⟨rfl, rfl⟩
          clear HST HDR
          go_wp2_with fail
          clear o0
          obtain ⟨wv, rfl⟩ : ∃ q, q = wz := ⟨wz, rfl⟩
          rw [rounds_succ]
          clear c0 c1' c2 c3 c4 c5 HR HGE
          go_upto_region 35 with fail
          obtain ⟨gd, hgd⟩ : ∃ q, q = wv.heap.size := ⟨_, rfl⟩
          rw [← hgd]
          generalize hwd : wv.alloc (.cells #[.int .i64 2, .int .i64 (n : Int), .slice A1 dl c1] 40) = wd
          have hkd : Keeps nobody wv wd := by rw [← hwd]; exact (Keeps.refl _ wv).alloc _
          have hbd : Blk wd gd 40 #[.int .i64 2, .int .i64 (n : Int), .slice A1 dl c1] := by rw [← hwd, hgd]; exact Blk.new _ _ _
          have q0 : wd.cell? ⟨gd, 0, none⟩ = some (.int .i64 2) := by rw [hbd.cell]; rfl
          have q1 : wd.cell? ⟨gd, 1, none⟩ = some (.int .i64 (n : Int)) := by rw [hbd.cell]; rfl
          have q2 : wd.cell? ⟨gd, 2, none⟩ = some (.slice A1 dl c1) := by rw [hbd.cell]; rfl
          have hlt := HDK.out.lt
          have HGD := Lib.hid (show gd ≠ gx ∧ gd ≠ mx by omega)
          have HDK := Lib.hid (HDK.out.quiet hkd)
          have HRD := Lib.hid (HRD.out.keeps hkd (fun _ _ h => h))
          have hgood : (dk ask j 2).input ⟨2, (n : Int), D⟩ = (ak ask j 2, Pure.mute) := by rw [HOUR.out, HDN.out]; exact dk_good ask j 2
          have HIN := Lib.hid (show Calls Tryz.prog 15 #[.pointer (some ⟨gx, 0, none⟩), .agg #[.int .i64 2, .int .i64 (n : Int), .slice A1 dl c1]] wd fun r w' => ∃ sv, r = .returned (.agg #[sv, .bool false, .bool false, .bool false, .bool false]) ∧ NSolo w w' gx mx (ak ask j 2) ∧ Posts wd w' sv [] ∧ Keeps (fun b => b = gx ∨ b = mx) wd w' from HDK.out.hears (F := fun b => (b < wl.heap.size ∧ b ≠ gx ∧ b ≠ mx) ∧ b < wd.heap.size) (.slice A1 dl c1) ⟨2, (n : Int), D⟩ (by show Row wd _ 1 _ D.length _; rw [← HDL.out]; exact HRD.out.strong) (fun b hb => ⟨hb.2, hb.1.2.1, hb.1.2.2⟩) (Nat.zero_le _) (Nat.zero_le _) (show 2 ≤ 1000000 by decide) hgood)
          clear hgd hwd hkd hbd hlt l1 l2 hgood
          go_wp2_with fail
          refine HIN.out.mono ?_
          rintro e we ⟨sv, rfl, hso, hpo, hke⟩
          have HAK := Lib.hid hso
          have HRD := Lib.hid (HRD.out.keeps hke (fun b hb e => e.elim hb.2.1 hb.2.2))
          have q0 := cell_two hke HGD.out.1 HGD.out.2 q0
          have q1 := cell_two hke HGD.out.1 HGD.out.2 q1
          have q2 := cell_two hke HGD.out.1 HGD.out.2 q2
          have HST := Lib.hid (show Calls Tryz.prog 16 #[.pointer (some ⟨gx, 0, none⟩)] we fun e w' => e = .returned (.int .i64 7) ∧ we = w' from HAK.out.state)
          have HDR := Lib.hid (show Calls Tryz.prog 23 #[.pointer (some ⟨gx, 0, none⟩)] we fun e w' => e = .returned (.int .i64 2) ∧ we = w' from HAK.out.drops)
          have HIN := Lib.hid (show Calls Tryz.prog 15 #[.pointer (some ⟨gx, 0, none⟩), .agg #[.int .i64 2, .int .i64 (n : Int), .slice A1 dl c1]] we fun r w' => ∃ sv, r = .returned (.agg #[sv, .bool false, .bool false, .bool false, .bool false]) ∧ NSolo w w' gx mx (ak ask j 3) ∧ Posts we w' sv [] ∧ Keeps (fun b => b = gx ∨ b = mx) we w' from HAK.out.hears (F := fun b => (b < wl.heap.size ∧ b ≠ gx ∧ b ≠ mx) ∧ b < we.heap.size) (.slice A1 dl c1) ⟨2, (n : Int), D⟩ (by show Row we _ 1 _ D.length _; rw [← HDL.out]; exact HRD.out.strong) (fun b hb => ⟨hb.2, hb.1.2.1, hb.1.2.2⟩) (Nat.zero_le _) (Nat.zero_le _) (show 2 ≤ 1000000 by decide) (ak_other ask j 2 (n : Int) D))
          clear hso hpo hke
          go_wp2_with fail
          refine HST.out.mono ?_
          rintro e w' ⟨rfl, rfl⟩
          go_wp2_with fail
          refine HDR.out.mono ?_
          rintro e w' ⟨rfl, rfl⟩
          clear HST HDR
          go_wp2_with fail
          refine HIN.out.mono ?_
          rintro e wf ⟨sv, rfl, hso, hpo, hke⟩
          have HST := Lib.hid (show Calls Tryz.prog 16 #[.pointer (some ⟨gx, 0, none⟩)] wf fun e w' => e = .returned (.int .i64 7) ∧ wf = w' from hso.state)
          have HDR := Lib.hid (show Calls Tryz.prog 23 #[.pointer (some ⟨gx, 0, none⟩)] wf fun e w' => e = .returned (.int .i64 3) ∧ wf = w' from hso.drops)
          have HBL := Lib.hid hso.bel
          clear hso hpo hke HIN q0 q1 q2 HRD HAK HDK
          go_wp2_with fail
          refine HST.out.mono ?_
          rintro e w' ⟨rfl, rfl⟩
          go_wp2_with fail
          refine HDR.out.mono ?_
          rintro e w' ⟨rfl, rfl⟩
          go_wp2_with fail
          go_ret
          exact ⟨rfl, HBL.out⟩
theorem negoIds_walk (a0 : Option Addr) (len0 cap0 : Nat) (a1 a2 : Int) (w : World) (hg : Env13 w) (w0 : IsStructs w [.int .i64, .row .u8] a0 len0 cap0) (h1 : (Lit.int .u8 a1).wf = true) (h2 : (Lit.int .u8 a2).wf = true) :
    Calls Tryz.prog 4 #[.slice a0 len0 cap0, .int .u8 a1, .int .u8 a2] w fun e w' => e = .returned (.bool true) ∧ Below w.heap.size w w' := by
  obtain ⟨b1, c1⟩ := u8_of_wf h1
  obtain ⟨b2, c2⟩ := u8_of_wf h2
  obtain ⟨zs, _, hz, _⟩ := opts_of w0
  obtain ⟨t, rfl⟩ : ∃ n : Nat, a1 = (n : Int) := ⟨a1.toNat, by omega⟩
  have hf : a2 = ((UInt8.ofNat a2.toNat).toNat : Nat) := by rw [UInt8.toNat_ofNat']; omega
  rw [hf]
  exact negoIds_walk' t (by omega) (UInt8.ofNat a2.toNat) _ zs w hg hz
end Go.Proofs.YtjomcffhbaplcaaGreatDoor
