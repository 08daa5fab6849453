/- A link that is Opened: echoes, refused protocols, its end; as values. Nothing of the program. -/
import Derived.Test.YtmgicbckgpdkcaaGreatDoorT2
namespace Go.Proofs.YtmgicbckgpdkcaaGreatDoor
set_option maxRecDepth 100000
set_option maxHeartbeats 16000000
open _root_.Go.Lib renaming hid → xhd
namespace Pure
section
variable {x : Lcp} {c l t u : Nat}
abbrev refused (proto : Nat) (info : List UInt8) : List UInt8 := (wide proto 2 ++ info).take 1496
theorem ya4 (proto : Nat) (info : List UInt8) : 2 ≤ (refused proto info).length := by
 show 2 ≤ ((wide proto 2 ++ info).take 1496).length
 rw [List.length_take, List.length_append, wide_length]
 omega
theorem y94 (proto : Nat) (info : List UInt8) : (refused proto info).take 2 = wide proto 2 := by
 show ((wide proto 2 ++ info).take 1496).take 2 = _
 rw [List.take_take, show min 2 1496 = 2 from rfl]
 rw [List.take_append_of_le_length (by rw [wide_length]; exact Nat.le_refl 2)]
 exact List.take_of_length_le (by rw [wide_length]; exact Nat.le_refl 2)
theorem open_refuse (hm : x.n.m = ⟨9, c, l, t, u⟩) (proto : Nat) (info : List UInt8) :
  x.refuse proto info = ({ x with n := { x.n with id := x.n.next } }, ⟨sends [⟨8, x.n.next, refused proto info⟩], 0⟩) := by
 unfold Lcp.refuse
 rw [if_pos (by rw [hm])]
 rfl
theorem open_rejected (hm : x.n.m = ⟨9, c, l, t, u⟩) (i : Int) (info : List UInt8) :
  x.input ⟨8, i, refused 49185 info⟩ = ({ x with n := { x.n with m := ⟨5, t - 1, u, t, u⟩, id := x.n.next } }, .of ⟨[⟨5, x.n.next, []⟩], false, true, false, false⟩) := by
 have h2 := ya4 49185 info
 unfold Lcp.input
 rw [if_neg (by rw [hm]; simp), if_neg (by simp), if_pos rfl, if_neg (fun h => h.elim (fun h => h (by rw [hm])) (fun h => absurd h (Nat.not_lt.2 h2))), if_pos (by dsimp only; rw [y94]; decide +kernel)]
 unfold Neg.by Neg.event
 rw [hm, act_9_14]
 rfl
theorem open_told (hm : x.n.m = ⟨9, c, l, t, u⟩) (i : Int) (proto : Nat) (hp : proto < 65536) (hl : proto ≠ 49185) (info : List UInt8) :
  x.input ⟨8, i, refused proto info⟩ = ({ x with n := { x.n with m := ⟨9, c, 0, t, u⟩ } }, ⟨mute, proto⟩) := by
 have h2 := ya4 proto info
 have hb : bnum ((refused proto info).take 2) = proto := by rw [y94, y98 hp]
 unfold Lcp.input
 rw [if_neg (by rw [hm]; simp), if_neg (by simp), if_pos rfl, if_neg (fun h => h.elim (fun h => h (by rw [hm])) (fun h => absurd h (Nat.not_lt.2 h2))), if_neg (by dsimp only; rw [hb]; exact hl)]
 dsimp only
 rw [hb]
 unfold Neg.by Neg.event
 rw [hm, act_9_13]
 rfl
theorem open_close (hm : x.n.m = ⟨9, c, l, t, u⟩) :
  x.act 3 = ({ x with n := { x.n with m := ⟨4, t - 1, u, t, u⟩, id := x.n.next } }, .of ⟨[⟨5, x.n.next, []⟩], false, true, false, false⟩) := by
 unfold Lcp.act Neg.act Lcp.with
 rw [if_neg (by decide), if_neg (by decide)]
 unfold Neg.event
 rw [hm, show ((3 : Int).toNat : Int) = ((3 : Nat) : Int) from rfl, act_9_3]
 rfl
theorem open_ends (hm : x.n.m = ⟨9, c, l, t, u⟩) (i : Int) :
  x.input ⟨5, i, []⟩ = ({ x with n := { x.n with m := ⟨5, 0, u, t, u⟩ } }, .of ⟨[⟨6, i, []⟩], false, true, false, false⟩) := by
 unfold Lcp.input
 rw [if_neg (by rw [hm]; simp), if_neg (by simp), if_neg (by simp), if_neg (by simp), if_neg (by simp), hear_end hm]
 rfl
theorem closing_ended (hm : x.n.m = ⟨4, c, l, t, u⟩) (i : Int) :
  x.input ⟨6, i, []⟩ = ({ x with n := { x.n with m := ⟨2, c, 0, t, u⟩ } }, .of ⟨[], false, false, false, true⟩) := by
 unfold Lcp.input
 rw [if_neg (by rw [hm]; simp), if_neg (by simp), if_neg (by simp), if_neg (by simp), if_neg (by simp), hear_ended hm]
 rfl
end
end Pure
open Go.RowKit
theorem y4k {w w' : World} {g m b off : Nat} {u : Value} (k : Keeps (fun b => b = g ∨ b = m) w w') (h1 : b ≠ g) (h2 : b ≠ m) (h : w.cell? ⟨b, off, none⟩ = some u) : w'.cell? ⟨b, off, none⟩ = some u := by
 have hl := y0x h
 unfold World.cell? at h ⊢
 rw [k.block b hl (fun e => e.elim h1 h2)]
 exact h
theorem yeb (n : Int) (m : Nat) (hm : m < 65536) (o : Value) (bs : List UInt8) (w : World) (env : Env14 w) (ho : Row w (fun b => b < w.heap.size) 1 o bs.length (u8s bs)) :
  Calls Tryz.prog 9 #[.int .i64 n, .int .u16 (m : Int), o] w fun e w' => e = .returned (.bool true) ∧ Below w.heap.size w w' := by
 have HM := xhd hm
 clear hm
 obtain ⟨OO, co0, rfl, _⟩ := ho.form
 have HO := xhd ho
 have HENV := xhd env
 have HAW := xhd (y4p w env.env)
 obtain ⟨on, hon⟩ : ∃ q, q = bs.length := ⟨_, rfl⟩
 have HON := xhd hon
 rw [← hon] at HO ⊢
 clear ho env hon
 go_enter Tryz.func9, Tryz.ntmps9
 go_wp2_with fail
 refine HAW.out.mono ?_
 rintro e w1 ⟨rfl, hk1⟩
 have HK1 := xhd hk1
 have HENV1 := xhd (HENV.out.keeps hk1)
 clear hk1 HAW HENV
 by_cases hol : 500 < on
 ·have d1 : decide ((500 : Int) < (on : Int)) = true := decide_eq_true (by omega)
  have d2 : decide (500 < on) = true := decide_eq_true hol
  go_wp2_with fail
  go_ret
  exact ⟨rfl, HK1.out.to_below⟩
 have d1 : decide ((500 : Int) < (on : Int)) = false := decide_eq_false (by omega)
 have d2 : decide (500 < on) = false := decide_eq_false hol
 have HOL := xhd hol
 clear hol
 have HOP := xhd (y80 n w1 HENV1.out)
 go_wp2_with fail
 refine HOP.out.mono ?_
 rintro e w2 ⟨gx, gy, a, b, rfl, hT, ha, hb⟩
 have HT := xhd hT
 have HHA := xhd ha
 have HHB := xhd hb
 clear hT ha hb HOP d1 d2
 obtain ⟨X, hX⟩ : ∃ q, q = Pure.linkAt a b 11 12 4 2 4 4 := ⟨_, rfl⟩
 obtain ⟨Y, hY⟩ : ∃ q, q = Pure.linkAt b a 12 11 4 2 4 4 := ⟨_, rfl⟩
 rw [← hX, ← hY] at HT
 have HX := xhd (show X.n.m = ⟨9, 4, 0, 4, 2⟩ ∧ X.n.naks = 0 ∧ X.n.dropped = 0 by rw [hX]; exact ⟨rfl, rfl, rfl⟩)
 have HY := xhd (show Y.n.m = ⟨9, 4, 0, 4, 2⟩ ∧ Y.n.naks = 0 ∧ Y.n.dropped = 0 by rw [hY]; exact ⟨rfl, rfl, rfl⟩)
 clear hX hY
 obtain ⟨nx, hnx⟩ : ∃ q, q = X.n.next := ⟨_, rfl⟩
 obtain ⟨X1, hX1⟩ : ∃ q : Pure.Lcp, q = { X with n := { X.n with id := X.n.next } } := ⟨_, rfl⟩
 have e1 : X.refuse m bs = (X1, ⟨Pure.sends [⟨8, nx, Pure.refused m bs⟩], 0⟩) := by rw [hX1, hnx]; exact Pure.open_refuse HX.out.1 m bs
 have HX1 := xhd (show X1.n.m = ⟨9, 4, 0, 4, 2⟩ ∧ X1.n.naks = 0 ∧ X1.n.dropped = 0 by rw [hX1]; exact HX.out)
 obtain ⟨D, hD⟩ : ∃ q, q = Pure.refused m bs := ⟨_, rfl⟩
 rw [← hD] at e1
 have HD := xhd hD
 have HO2 := xhd ((HO.out.keeps (Keeps.new (y1p HK1.out HT.out.below)) (fun _ _ e => e)).mono (G := fun b => b < w2.heap.size) (fun b hb => Nat.lt_of_lt_of_le hb (y1p HK1.out HT.out.below).size))
 have HC1 := xhd (show Calls Tryz.prog 37 #[.pointer (some ⟨gx.l, 0, none⟩), .int .i64 (m : Int), .slice OO on co0] w2 fun r w' => ∃ sv, ∃ ps : List (Value × Pure.Pkt), r = .returned (.agg #[sv, .bool false, .bool false, .bool false, .bool false, .int .i64 0]) ∧ ps.map Prod.snd = [⟨8, nx, D⟩] ∧ PRow w' (fun b => w2.heap.size ≤ b ∧ b < w'.heap.size) sv ps ∧ LTwo w1 w' gx gy X1 Y ∧ Keeps (fun b => b = gx.g ∨ b = gx.gm) w2 w' from (by have h := HT.out.call (fun R f hx => yg3 hx (m : Int) m (by have := HM.out; omega) (fun b => b < w2.heap.size) (.slice OO on co0) bs (by rw [← HON.out]; exact HO2.out) (fun b hb => hb) (by have := HOL.out; have := HON.out; omega)); rw [e1] at h; exact h))
 clear hnx hX1 e1 hD
 have hmw : IntKind.i64.wrap (m : Int) = (m : Int) := IntWalk.i64_in _ (by have := HM.out; omega)
 have hmw2 : wrap64 (m : Int) = (m : Int) := IntWalk.wrap64_in _ (by have := HM.out; omega)
 go_wp2_with fail
 with_reducible refine HC1.out.mono ?_
 rintro e w3 ⟨sv1, ps1, rfl, hps, hpr, hT1, hk⟩
 obtain ⟨q1, r1, c1, A1, z1, rfl, pq1, p1a, p1b, p1c, hrow⟩ := y57 hpr hps
 have HT1 := xhd hT1
 have HROW1 := xhd hrow
 have HP1 := xhd (And.intro p1a (And.intro p1b p1c))
 have HQ1 := xhd pq1
 have HKS1 := xhd hk
 clear hps hpr hT1 hk hrow p1a p1b p1c pq1
 go_upto_region 9 with fail
 obtain ⟨ob1, hob⟩ : ∃ q, q = w3.heap.size := ⟨_, rfl⟩
 rw [← hob]
 have HOB1 := xhd (show w3.heap.size ≤ ob1 from Nat.le_of_eq hob.symm)
 generalize hwn : w3.alloc _ = w3o
 have hkn : Keeps y01 w3 w3o := by rw [← hwn]; exact (Keeps.refl _ _).alloc _
 have hB : Blk w3o ob1 61 #[.slice (some ⟨q1, r1, none⟩) 1 c1, .bool false, .bool false, .bool false, .bool false, .int .i64 0] := by rw [← hwn, hob]; exact Blk.new _ _ _
 have HB1 := xhd hB
 have HKN1 := xhd hkn
 clear hob hwn hkn hB
 obtain ⟨dn, hdn⟩ : ∃ q, q = D.length := ⟨_, rfl⟩
 have HDN := xhd hdn
 have u10 : w3o.cell? ⟨ob1, 0, none⟩ = some (.slice (some ⟨q1, r1, none⟩) 1 c1) := HB1.out.cell 0
 have u1a : w3o.cell? ⟨q1, r1, none⟩ = some (.int .i64 8) := y04 HP1.out.1 HKN1.out
 have u1b : w3o.cell? ⟨q1, r1 + 1, none⟩ = some (.int .i64 (nx : Int)) := y04 HP1.out.2.1 HKN1.out
 have u1c : w3o.cell? ⟨q1, r1 + 2, none⟩ = some (.slice A1 D.length z1) := y04 HP1.out.2.2 HKN1.out
 rw [← hdn] at u1c
 clear hdn
 have HRW1 := xhd ((HROW1.out.keeps HKN1.out (fun _ _ e => e)))
 have HT1o := xhd (HT1.out.quiet HKN1.out)
 have HSW := xhd (show gy.g < w2.heap.size ∧ gy.gm < w2.heap.size from HT.out.swap.lt)
 have HDL := xhd (show D.length ≤ 1496 by rw [HD.out]; show ((Pure.wide m 2 ++ bs).take 1496).length ≤ 1496; rw [List.length_take]; omega)
 by_cases hp : m = 49185
 ·subst hp
  obtain ⟨Y1, hY1⟩ : ∃ q : Pure.Lcp, q = { Y with n := { Y.n with m := ⟨5, 4 - 1, 2, 4, 2⟩, id := Y.n.next } } := ⟨_, rfl⟩
  have e2 : Y.input ⟨8, (nx : Int), D⟩ = (Y1, .of ⟨[⟨5, Y.n.next, []⟩], false, true, false, false⟩) := by rw [hY1, HD.out]; exact Pure.open_rejected HY.out.1 _ bs
  have HC2 := xhd (show Calls Tryz.prog 30 #[.pointer (some ⟨gy.l, 0, none⟩), pktV ⟨8, (nx : Int), D⟩ (.slice A1 D.length z1)] w3o fun r w' => ∃ sv, ∃ ps : List (Value × Pure.Pkt), r = .returned (.agg #[sv, .bool false, .bool true, .bool false, .bool false, .int .i64 0]) ∧ ps.map Prod.snd = [⟨5, Y.n.next, []⟩] ∧ PRow w' (fun b => w3o.heap.size ≤ b ∧ b < w'.heap.size) sv ps ∧ LTwo w1 w' gy gx Y1 X1 ∧ Keeps (fun b => b = gy.g ∨ b = gy.gm) w3o w' from (by have h := HT1o.out.swap.hears (fun b => w2.heap.size ≤ b ∧ b < w3.heap.size) ⟨8, (nx : Int), D⟩ (.slice A1 D.length z1) (fun b hb => ⟨Nat.lt_of_lt_of_le hb.2 HKN1.out.size, by have := HSW.out.1; omega, by have := HSW.out.2; omega⟩) HRW1.out (by rw [HY.out.2.1]; decide) (by rw [HY.out.2.2]; decide) (by have := HDL.out; show D.length ≤ 1000000; omega) e2; exact h))
  have HS1 := xhd (show Y1.n.m.state = 5 by rw [hY1])
  clear hY1 e2
  have hpv : pktV ⟨8, (nx : Int), D⟩ (.slice A1 D.length z1) = .agg #[.int .i64 8, .int .i64 (nx : Int), .slice A1 dn z1] := by rw [HDN.out]
  rw [hpv] at HC2
  clear hpv
  have d3 : ((49185 : Int) == 49185) = true := by decide
  go_wp2_with fail
  with_reducible refine HC2.out.mono ?_
  rintro e w4 ⟨sv2, ps2, rfl, hps, hpr, hT2, hk⟩
  obtain ⟨q2, r2, c2, A2, z2, rfl, pq2, p2a, p2b, p2c, hrow⟩ := y57 hpr hps
  have HT2 := xhd hT2
  have HROW2 := xhd hrow
  have HP2 := xhd (And.intro p2a (And.intro p2b p2c))
  have HQ2 := xhd pq2
  have HKS2 := xhd hk
  clear hps hpr hT2 hk hrow p2a p2b p2c pq2
  go_upto_region 12 with fail
  obtain ⟨ob2, hob⟩ : ∃ q, q = w4.heap.size := ⟨_, rfl⟩
  rw [← hob]
  have HOB2 := xhd (show w4.heap.size ≤ ob2 from Nat.le_of_eq hob.symm)
  generalize hwn : w4.alloc _ = w4o
  have hkn : Keeps y01 w4 w4o := by rw [← hwn]; exact (Keeps.refl _ _).alloc _
  have hB : Blk w4o ob2 61 #[.slice (some ⟨q2, r2, none⟩) 1 c2, .bool false, .bool true, .bool false, .bool false, .int .i64 0] := by rw [← hwn, hob]; exact Blk.new _ _ _
  have HB2 := xhd hB
  have HKN2 := xhd hkn
  clear hob hwn hkn hB
  have v0 : w4o.cell? ⟨ob2, 2, none⟩ = some (.bool true) := HB2.out.cell 2
  have v1 : w4o.cell? ⟨ob2, 5, none⟩ = some (.int .i64 0) := HB2.out.cell 5
  have HST := xhd (show Calls Tryz.prog 40 #[.pointer (some ⟨gy.l, 0, none⟩)] w4o fun e w' => e = .returned (.int .i64 5) ∧ w4o = w' from by have h := (HT2.out.quiet HKN2.out).state; rw [HS1.out] at h; exact h)
  have HBW := xhd ((HT2.out.quiet HKN2.out).below)
  go_wp2_with fail
  refine HST.out.mono ?_
  rintro e w' ⟨rfl, rfl⟩
  go_wp2_with fail
  go_ret
  exact ⟨rfl, y1p HK1.out HBW.out⟩
 ·obtain ⟨Y1, hY1⟩ : ∃ q : Pure.Lcp, q = { Y with n := { Y.n with m := ⟨9, 4, 0, 4, 2⟩ } } := ⟨_, rfl⟩
  have e2 : Y.input ⟨8, (nx : Int), D⟩ = (Y1, ⟨Pure.mute, m⟩) := by rw [hY1, HD.out]; exact Pure.open_told HY.out.1 _ m HM.out hp bs
  have HC2 := xhd (show Calls Tryz.prog 30 #[.pointer (some ⟨gy.l, 0, none⟩), pktV ⟨8, (nx : Int), D⟩ (.slice A1 D.length z1)] w3o fun r w' => ∃ sv, ∃ ps : List (Value × Pure.Pkt), r = .returned (.agg #[sv, .bool false, .bool false, .bool false, .bool false, .int .i64 (m : Int)]) ∧ ps.map Prod.snd = [] ∧ PRow w' (fun b => w3o.heap.size ≤ b ∧ b < w'.heap.size) sv ps ∧ LTwo w1 w' gy gx Y1 X1 ∧ Keeps (fun b => b = gy.g ∨ b = gy.gm) w3o w' from (by have h := HT1o.out.swap.hears (fun b => w2.heap.size ≤ b ∧ b < w3.heap.size) ⟨8, (nx : Int), D⟩ (.slice A1 D.length z1) (fun b hb => ⟨Nat.lt_of_lt_of_le hb.2 HKN1.out.size, by have := HSW.out.1; omega, by have := HSW.out.2; omega⟩) HRW1.out (by rw [HY.out.2.1]; decide) (by rw [HY.out.2.2]; decide) (by have := HDL.out; show D.length ≤ 1000000; omega) e2; exact h))
  have HY1 := xhd (show Y1.n.m = ⟨9, 4, 0, 4, 2⟩ ∧ Y1.n.naks = 0 ∧ Y1.n.dropped = 0 by rw [hY1]; exact ⟨rfl, HY.out.2⟩)
  clear hY1 e2
  have hpv : pktV ⟨8, (nx : Int), D⟩ (.slice A1 D.length z1) = .agg #[.int .i64 8, .int .i64 (nx : Int), .slice A1 dn z1] := by rw [HDN.out]
  rw [hpv] at HC2
  clear hpv
  have d3 : ((m : Int) == 49185) = false := by rw [beq_eq_false_iff_ne]; omega
  have d4 : ((m : Int) == (m : Int)) = true := beq_self_eq_true _
  go_wp2_with fail
  with_reducible refine HC2.out.mono ?_
  rintro e w4 ⟨sv2, ps2, rfl, hps, hpr, hT2, hk⟩
  obtain ⟨A2, z2, rfl⟩ := y5r hpr hps
  have HT2 := xhd hT2
  have HKS2 := xhd hk
  clear hps hpr hT2 hk
  go_upto_region 12 with fail
  obtain ⟨ob2, hob⟩ : ∃ q, q = w4.heap.size := ⟨_, rfl⟩
  rw [← hob]
  have HOB2 := xhd (show w4.heap.size ≤ ob2 from Nat.le_of_eq hob.symm)
  generalize hwn : w4.alloc _ = w4o
  have hkn : Keeps y01 w4 w4o := by rw [← hwn]; exact (Keeps.refl _ _).alloc _
  have hB : Blk w4o ob2 61 #[.slice A2 0 z2, .bool false, .bool false, .bool false, .bool false, .int .i64 (m : Int)] := by rw [← hwn, hob]; exact Blk.new _ _ _
  have HB2 := xhd hB
  have HKN2 := xhd hkn
  clear hob hwn hkn hB
  have v0 : w4o.cell? ⟨ob2, 2, none⟩ = some (.bool false) := HB2.out.cell 2
  have v1 : w4o.cell? ⟨ob2, 5, none⟩ = some (.int .i64 (m : Int)) := HB2.out.cell 5
  have HT2o := xhd (HT2.out.quiet HKN2.out)
  have HST := xhd (show Calls Tryz.prog 40 #[.pointer (some ⟨gy.l, 0, none⟩)] w4o fun e w' => e = .returned (.int .i64 9) ∧ w4o = w' from by have h := HT2o.out.state; rw [HY1.out.1] at h; exact h)
  go_wp2_with fail
  refine HST.out.mono ?_
  rintro e w' ⟨rfl, rfl⟩
  clear HST
  obtain ⟨nc, hnc⟩ : ∃ q, q = X1.n.next := ⟨_, rfl⟩
  obtain ⟨X2, hX2⟩ : ∃ q : Pure.Lcp, q = { X1 with n := { X1.n with m := ⟨4, 4 - 1, 2, 4, 2⟩, id := X1.n.next } } := ⟨_, rfl⟩
  have e3 : X1.act 3 = (X2, .of ⟨[⟨5, nc, []⟩], false, true, false, false⟩) := by rw [hX2, hnc]; exact Pure.open_close HX1.out.1
  have HC3 := xhd (show Calls Tryz.prog 28 #[.pointer (some ⟨gx.l, 0, none⟩), .int .i64 3] w4o fun r w' => ∃ sv, ∃ ps : List (Value × Pure.Pkt), r = .returned (.agg #[sv, .bool false, .bool true, .bool false, .bool false, .int .i64 0]) ∧ ps.map Prod.snd = [⟨5, nc, []⟩] ∧ PRow w' (fun b => w4o.heap.size ≤ b ∧ b < w'.heap.size) sv ps ∧ LTwo w1 w' gx gy X2 Y1 ∧ Keeps (fun b => b = gx.g ∨ b = gx.gm) w4o w' from (HT2o.out.swap.acts 3 (by omega) (by rw [HX1.out.2.1]; decide) e3))
  have HX2 := xhd (show X2.n.m = ⟨4, 3, 2, 4, 2⟩ ∧ X2.n.naks = 0 ∧ X2.n.dropped = 0 by rw [hX2]; exact ⟨rfl, HX1.out.2⟩)
  clear hnc hX2 e3
  go_wp2_with fail
  with_reducible refine HC3.out.mono ?_
  rintro e w5 ⟨sv3, ps3, rfl, hps, hpr, hT3, hk⟩
  obtain ⟨q3, r3, c3, A3, z3, rfl, pq3, p3a, p3b, p3c, hrow⟩ := y57 hpr hps
  have HT3 := xhd hT3
  have HROW3 := xhd hrow
  have HP3 := xhd (And.intro p3a (And.intro p3b p3c))
  have HQ3 := xhd pq3
  have HKS3 := xhd hk
  clear hps hpr hT3 hk hrow p3a p3b p3c pq3
  go_upto_region 17 with fail
  obtain ⟨ob3, hob⟩ : ∃ q, q = w5.heap.size := ⟨_, rfl⟩
  rw [← hob]
  have HOB3 := xhd (show w5.heap.size ≤ ob3 from Nat.le_of_eq hob.symm)
  generalize hwn : w5.alloc _ = w5o
  have hkn : Keeps y01 w5 w5o := by rw [← hwn]; exact (Keeps.refl _ _).alloc _
  have hB : Blk w5o ob3 61 #[.slice (some ⟨q3, r3, none⟩) 1 c3, .bool false, .bool true, .bool false, .bool false, .int .i64 0] := by rw [← hwn, hob]; exact Blk.new _ _ _
  have HB3 := xhd hB
  have HKN3 := xhd hkn
  clear hob hwn hkn hB
  clear v0 v1 d3 d4 u10 u1a u1b u1c
  have u30 : w5o.cell? ⟨ob3, 0, none⟩ = some (.slice (some ⟨q3, r3, none⟩) 1 c3) := HB3.out.cell 0
  have u3a : w5o.cell? ⟨q3, r3, none⟩ = some (.int .i64 5) := y04 HP3.out.1 HKN3.out
  have u3b : w5o.cell? ⟨q3, r3 + 1, none⟩ = some (.int .i64 (nc : Int)) := y04 HP3.out.2.1 HKN3.out
  have u3c : w5o.cell? ⟨q3, r3 + 2, none⟩ = some (.slice A3 0 z3) := y04 HP3.out.2.2 HKN3.out
  have v0 : w5o.cell? ⟨ob3, 2, none⟩ = some (.bool true) := HB3.out.cell 2
  have HRW3 := xhd ((HROW3.out.keeps HKN3.out (fun _ _ e => e)))
  have HT3o := xhd (HT3.out.quiet HKN3.out)
  have HSW4 := xhd (show gy.g < w4o.heap.size ∧ gy.gm < w4o.heap.size from HT2o.out.lt)
  obtain ⟨Y2, hY2⟩ : ∃ q : Pure.Lcp, q = { Y1 with n := { Y1.n with m := ⟨5, 0, 2, 4, 2⟩ } } := ⟨_, rfl⟩
  have e4 : Y1.input ⟨5, (nc : Int), []⟩ = (Y2, .of ⟨[⟨6, (nc : Int), []⟩], false, true, false, false⟩) := by rw [hY2]; exact Pure.open_ends HY1.out.1 _
  have HC4 := xhd (show Calls Tryz.prog 30 #[.pointer (some ⟨gy.l, 0, none⟩), .agg #[.int .i64 5, .int .i64 (nc : Int), .slice A3 0 z3]] w5o fun r w' => ∃ sv, ∃ ps : List (Value × Pure.Pkt), r = .returned (.agg #[sv, .bool false, .bool true, .bool false, .bool false, .int .i64 0]) ∧ ps.map Prod.snd = [⟨6, (nc : Int), []⟩] ∧ PRow w' (fun b => w5o.heap.size ≤ b ∧ b < w'.heap.size) sv ps ∧ LTwo w1 w' gy gx Y2 X2 ∧ Keeps (fun b => b = gy.g ∨ b = gy.gm) w5o w' from (HT3o.out.swap.hears (fun b => w4o.heap.size ≤ b ∧ b < w5.heap.size) ⟨5, (nc : Int), []⟩ (.slice A3 0 z3) (fun b hb => ⟨Nat.lt_of_lt_of_le hb.2 HKN3.out.size, by have := HSW4.out.1; omega, by have := HSW4.out.2; omega⟩) HRW3.out (by rw [HY1.out.2.1]; decide) (by rw [HY1.out.2.2]; decide) (Nat.zero_le _) e4))
  have HY2 := xhd (show Y2.n.m.state = 5 by rw [hY2])
  clear hY2 e4
  go_wp2_with fail
  with_reducible refine HC4.out.mono ?_
  rintro e w6 ⟨sv4, ps4, rfl, hps, hpr, hT4, hk⟩
  obtain ⟨q4, r4, c4, A4, z4, rfl, pq4, p4a, p4b, p4c, hrow⟩ := y57 hpr hps
  have HT4 := xhd hT4
  have HROW4 := xhd hrow
  have HP4 := xhd (And.intro p4a (And.intro p4b p4c))
  have HQ4 := xhd pq4
  have HKS4 := xhd hk
  clear hps hpr hT4 hk hrow p4a p4b p4c pq4
  go_upto_region 20 with fail
  obtain ⟨ob4, hob⟩ : ∃ q, q = w6.heap.size := ⟨_, rfl⟩
  rw [← hob]
  have HOB4 := xhd (show w6.heap.size ≤ ob4 from Nat.le_of_eq hob.symm)
  generalize hwn : w6.alloc _ = w6o
  have hkn : Keeps y01 w6 w6o := by rw [← hwn]; exact (Keeps.refl _ _).alloc _
  have hB : Blk w6o ob4 61 #[.slice (some ⟨q4, r4, none⟩) 1 c4, .bool false, .bool true, .bool false, .bool false, .int .i64 0] := by rw [← hwn, hob]; exact Blk.new _ _ _
  have HB4 := xhd hB
  have HKN4 := xhd hkn
  clear hob hwn hkn hB
  have u40 : w6o.cell? ⟨ob4, 0, none⟩ = some (.slice (some ⟨q4, r4, none⟩) 1 c4) := HB4.out.cell 0
  have u4a : w6o.cell? ⟨q4, r4, none⟩ = some (.int .i64 6) := y04 HP4.out.1 HKN4.out
  have u4b : w6o.cell? ⟨q4, r4 + 1, none⟩ = some (.int .i64 (nc : Int)) := y04 HP4.out.2.1 HKN4.out
  have u4c : w6o.cell? ⟨q4, r4 + 2, none⟩ = some (.slice A4 0 z4) := y04 HP4.out.2.2 HKN4.out
  have v0 : w6o.cell? ⟨ob4, 2, none⟩ = some (.bool true) := HB4.out.cell 2
  have HNB := xhd (show ∀ x, gy.g = x ∨ gy.gm = x → x < w4o.heap.size from fun x hx => by have := HSW4.out; omega)
  have hold : ∀ {b o : Nat} {v : Value}, w4o.heap.size ≤ b → w5o.cell? ⟨b, o, none⟩ = some v → w6o.cell? ⟨b, o, none⟩ = some v := fun hb h => y04 (y4k HKS4.out (by have := HSW4.out; omega) (by have := HSW4.out; omega) h) HKN4.out
  have y30 : w6o.cell? ⟨ob3, 0, none⟩ = some (.slice (some ⟨q3, r3, none⟩) 1 c3) := hold (Nat.le_trans HKS3.out.size HOB3.out) u30
  have y3b : w6o.cell? ⟨q3, r3 + 1, none⟩ = some (.int .i64 (nc : Int)) := hold HQ3.out u3b
  have d5 : ((nc : Int) == (nc : Int)) = true := beq_self_eq_true _
  clear u30 u3a u3b u3c hold
  have HRW4 := xhd ((HROW4.out.keeps HKN4.out (fun _ _ e => e)))
  have HT4o := xhd (HT4.out.quiet HKN4.out)
  have HSW5 := xhd (show gx.g < w5o.heap.size ∧ gx.gm < w5o.heap.size from HT3o.out.lt)
  go_quiet (fail)
  have hkq : Keeps y01 w6o (w6o.drewN nq) := Keeps.of_drewN (n := nq) rfl
  generalize w6o.drewN nq = w6d at hkq ⊢
  have s40 := y04 u40 hkq
  have s4a := y04 u4a hkq
  have s4b := y04 u4b hkq
  have s4c := y04 u4c hkq
  have HRW5 := xhd (HRW4.out.keeps hkq (fun _ _ e => e))
  have HT5o := xhd (HT4o.out.quiet hkq)
  have HKQ := xhd hkq
  clear u40 u4a u4b u4c y30 y3b v0 d5 hkq
  obtain ⟨X3, hX3⟩ : ∃ q : Pure.Lcp, q = { X2 with n := { X2.n with m := ⟨2, 3, 0, 4, 2⟩ } } := ⟨_, rfl⟩
  have e5 : X2.input ⟨6, (nc : Int), []⟩ = (X3, .of ⟨[], false, false, false, true⟩) := by rw [hX3]; exact Pure.closing_ended HX2.out.1 _
  have HC5 := xhd (show Calls Tryz.prog 30 #[.pointer (some ⟨gx.l, 0, none⟩), .agg #[.int .i64 6, .int .i64 (nc : Int), .slice A4 0 z4]] w6d fun r w' => ∃ sv, ∃ ps : List (Value × Pure.Pkt), r = .returned (.agg #[sv, .bool false, .bool false, .bool false, .bool true, .int .i64 0]) ∧ ps.map Prod.snd = [] ∧ PRow w' (fun b => w6d.heap.size ≤ b ∧ b < w'.heap.size) sv ps ∧ LTwo w1 w' gx gy X3 Y2 ∧ Keeps (fun b => b = gx.g ∨ b = gx.gm) w6d w' from (HT5o.out.swap.hears (fun b => w5o.heap.size ≤ b ∧ b < w6.heap.size) ⟨6, (nc : Int), []⟩ (.slice A4 0 z4) (fun b hb => ⟨Nat.lt_of_lt_of_le hb.2 (Nat.le_trans HKN4.out.size HKQ.out.size), by have := HSW5.out.1; omega, by have := HSW5.out.2; omega⟩) HRW5.out (by rw [HX2.out.2.1]; decide) (by rw [HX2.out.2.2]; decide) (Nat.zero_le _) e5))
  have HX3 := xhd (show X3.n.m.state = 2 by rw [hX3])
  clear hX3 e5
  go_wp2_with fail
  with_reducible refine HC5.out.mono ?_
  rintro e w7 ⟨sv5, ps5, rfl, hps, hpr, hT5, hk⟩
  obtain ⟨A5, z5, rfl⟩ := y5r hpr hps
  have HT5 := xhd hT5
  have HKS5 := xhd hk
  clear hps hpr hT5 hk
  go_upto_region 23 with fail
  obtain ⟨ob5, hob⟩ : ∃ q, q = w7.heap.size := ⟨_, rfl⟩
  rw [← hob]
  have HOB5 := xhd (show w7.heap.size ≤ ob5 from Nat.le_of_eq hob.symm)
  generalize hwn : w7.alloc _ = w7o
  have hkn : Keeps y01 w7 w7o := by rw [← hwn]; exact (Keeps.refl _ _).alloc _
  have hB : Blk w7o ob5 61 #[.slice A5 0 z5, .bool false, .bool false, .bool false, .bool true, .int .i64 0] := by rw [← hwn, hob]; exact Blk.new _ _ _
  have HB5 := xhd hB
  have HKN5 := xhd hkn
  clear hob hwn hkn hB
  have v4 : w7o.cell? ⟨ob5, 4, none⟩ = some (.bool true) := HB5.out.cell 4
  have HT6o := xhd (HT5.out.quiet HKN5.out)
  have HSX := xhd (show Calls Tryz.prog 40 #[.pointer (some ⟨gx.l, 0, none⟩)] w7o fun e w' => e = .returned (.int .i64 2) ∧ w7o = w' from by have h := HT6o.out.state; rw [HX3.out] at h; exact h)
  have HSY := xhd (show Calls Tryz.prog 40 #[.pointer (some ⟨gy.l, 0, none⟩)] w7o fun e w' => e = .returned (.int .i64 5) ∧ w7o = w' from by have h := HT6o.out.swap.state; rw [HY2.out] at h; exact h)
  have HBW := xhd (HT6o.out.below)
  go_wp2_with fail
  with_reducible refine HSX.out.mono ?_
  rintro e w' ⟨rfl, rfl⟩
  go_wp2_with fail
  with_reducible refine HSY.out.mono ?_
  rintro e w' ⟨rfl, rfl⟩
  go_wp2_with fail
  go_ret
  exact ⟨rfl, y1p HK1.out HBW.out⟩
theorem lcpEnds_walk (a0 a1 : Int) (a2 : Option Addr) (len2 cap2 : Nat) (z2 : List Int) (w : World) (hg : Env14 w) (h0 : (Lit.int .i64 a0).wf = true) (h1 : (Lit.int .u16 a1).wf = true) (w2 : y42 .u8 w a2 len2 cap2 z2) :
  Calls Tryz.prog 9 #[.int .i64 a0, .int .u16 a1, .slice a2 len2 cap2] w fun e w' => e = .returned (.bool true) ∧ Below w.heap.size w w' := by
 obtain ⟨b1, c1⟩ := u16_of_wf h1
 obtain ⟨m, rfl⟩ : ∃ n : Nat, a1 = (n : Int) := ⟨a1.toNat, by omega⟩
 obtain ⟨l, hl, hr⟩ := w2.bytes
 subst hl
 exact yeb a0 m (by omega) _ l w hg hr
end Go.Proofs.YtmgicbckgpdkcaaGreatDoor
