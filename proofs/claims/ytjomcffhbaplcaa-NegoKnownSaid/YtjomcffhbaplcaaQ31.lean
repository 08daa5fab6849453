/- Chapter 13's statements: awake. -/
import Derived.Test.YtjomcffhbaplcaaQ30
namespace Go.Proofs.Ytjomcffhbaplcaa
open Go.RowKit
/-- A literal list of one option. -/
theorem one_opt {w : World} {b b2 : Nat} {t : Int} {l : List UInt8} (h1 : Blk w b 5 (u8s l).toArray) (h2 : Blk w b2 32 #[.int .i64 t, .slice (some ⟨b, 0, none⟩) l.length l.length]) (hl : l.length ≤ 1000) :
    ORow w (fun x => x = b ∨ x = b2) (.slice (some ⟨b2, 0, none⟩) 1 1) [(.slice (some ⟨b, 0, none⟩) l.length l.length, (t, l))] := by
  refine ⟨Row.block (F := fun x => x = b ∨ x = b2) (n := 1) (c := 1) (size := 2) (cs := #[.int .i64 t, .slice (some ⟨b, 0, none⟩) l.length l.length]) h2 (.inr rfl) rfl (by unfold maxLen; omega) (Nat.le_refl _), fun p hp => ?_⟩
  simp at hp
  subst hp
  have h := Row.block (F := fun x => x = b ∨ x = b2) (n := l.length) (c := l.length) (size := 1) h1 (.inl rfl) (by simp) (by unfold maxLen; omega) (Nat.le_refl _)
  simpa using h
theorem lit_one (W : World) (cs : Array Value) (t : Int) (l : List UInt8) (n : Nat) (hc : cs = (u8s l).toArray) (hn : n = l.length) (hl : l.length ≤ 1000) :
    ORow ((W.alloc (.cells cs 5)).alloc (.cells #[.int .i64 t, .slice (some ⟨W.heap.size, 0, none⟩) n n] 32)) (fun x => W.heap.size ≤ x ∧ x < W.heap.size + 2) (.slice (some ⟨W.heap.size + 1, 0, none⟩) 1 1) [(.slice (some ⟨W.heap.size, 0, none⟩) n n, (t, l))] ∧
      Keeps nobody W ((W.alloc (.cells cs 5)).alloc (.cells #[.int .i64 t, .slice (some ⟨W.heap.size, 0, none⟩) n n] 32)) ∧ ((W.alloc (.cells cs 5)).alloc (.cells #[.int .i64 t, .slice (some ⟨W.heap.size, 0, none⟩) n n] 32)).heap.size = W.heap.size + 2 := by
  subst hc hn
  have e : (W.alloc (.cells (u8s l).toArray 5)).heap.size = W.heap.size + 1 := by simp
  have h1 := (Blk.new W 5 (u8s l).toArray).alloc (.cells #[.int .i64 t, .slice (some ⟨W.heap.size, 0, none⟩) l.length l.length] 32)
  have h2 := Blk.new (W.alloc (.cells (u8s l).toArray 5)) 32 #[.int .i64 t, .slice (some ⟨W.heap.size, 0, none⟩) l.length l.length]
  rw [e] at h2
  exact ⟨(one_opt h1 h2 hl).mono (fun x hx => by omega), ((Keeps.refl _ W).alloc _).alloc _, by simp⟩
/-- A list of one option. -/
theorem one_of {qs : List (Value × Pure.Opt)} {o : Pure.Opt} (h : optsOf qs = [o]) : ∃ v, qs = [(v, o)] := by
  match qs, h with
  | [(v, o')], h =>
    injection h with h1 _
    exact ⟨v, by rw [← h1]⟩
/-- A list of one packet. -/
theorem one_pkt {qs : List (Value × Pure.Pkt)} {o : Pure.Pkt} (h : qs.map Prod.snd = [o]) : ∃ v, qs = [(v, o)] := by
  match qs, h with
  | [(v, o')], h =>
    injection h with h1 _
    exact ⟨v, by rw [← h1]⟩
theorem fine_five : Pure.Fine [((5 : Int), [(0 : UInt8), 0, 0, 1])] := ⟨by decide, by decide +kernel⟩
theorem judge_awake : Pure.judge Pure.fewRules [((1 : Int), [(7 : UInt8), 208])] false = (3, [(1, [5, 220])]) := by
  have h := Pure.few_great (b := [(7 : UInt8), 208]) rfl (by decide +kernel) false
  rw [h]
  decide +kernel
set_option maxRecDepth 100000 in
set_option maxHeartbeats 8000000 in
theorem awake_any (w : World) : Calls Try.prog 6 #[] w fun e w' => e = .returned (.bool true) ∧ Keeps nobody w w' := by
  have HR1 := Lib.hid (rules_any w)
  go_enter Try.func6, Try.ntmps6
  go_wp2_with fail
  refine HR1.out.mono ?_
  rintro e w1 ⟨u1, us1, rfl, hrow1, hus1, hk1⟩
  obtain ⟨A1, c1, rfl, _⟩ := hrow1.form
  have HUS1 := Lib.hid hus1
  have HK1 := Lib.hid hk1
  have HA1 := Lib.hid (asRules_any _ _ us1 w1 hrow1 (fun b hb => hb.2) (few_rules hus1).len)
  clear hrow1 hus1 hk1 HR1
  go_wp2_with fail
  refine HA1.out.mono ?_
  rintro e w2 ⟨u2, qs2, rfl, hq2, hr2⟩
  obtain ⟨A2, c2, rfl⟩ := own_form hr2.own
  obtain ⟨hrow2, hf2, hfw2⟩ := few_made hr2 hq2 HUS1.out
  have HROW2 := Lib.hid hrow2
  have HF2 := Lib.hid hf2
  have HW2 := Lib.hid hfw2
  have HK2 := Lib.hid (HK1.out.trans hr2.kept)
  have HJ := Lib.hid (fun (W : World) (hk : Keeps nobody w2 W) (G : Nat → Prop) (x : Value) (zs : List (Value × Pure.Opt)) (hz : ORow W G x zs) (hfz : FewOpts zs) => judge_any _ G _ _ qs2 zs false W (hrow2.keeps hk (fun _ _ h => h)) hz hfw2 hfz)
  clear hq2 hr2 hrow2 hf2 hfw2 HA1 HUS1 HK1
  go_wp2_with fail
  obtain ⟨hz1, hkz1, _⟩ := lit_one w2 #[.int .u8 7, .int .u8 208] 1 [7, 208] 2 rfl rfl (by decide)
  have HJ1 := HJ.out _ hkz1 _ _ _ hz1 ⟨by simp, by simp⟩
  rw [HF2.out, show optsOf [((.slice (some ⟨w2.heap.size, 0, none⟩) 2 2 : Value), (((1 : Int), [(7 : UInt8), 208]) : Pure.Opt))] = [((1 : Int), [(7 : UInt8), 208])] from rfl, judge_awake] at HJ1
  have HJ1 := Lib.hid HJ1
  have HKZ1 := Lib.hid (HK2.out.trans hkz1)
  clear hz1 hkz1 HJ
  refine HJ1.out.mono ?_
  rintro e w3 ⟨A3, c3, qs3, rfl, hq3, hr3⟩
  obtain ⟨v3, rfl⟩ := one_of hq3
  have HR3 := Lib.hid hr3
  have HK3 := Lib.hid (HKZ1.out.trans (Keeps.new hr3.below))
  have HRU := Lib.hid (rules_any w3)
  clear hq3 hr3 HJ1 HKZ1 HROW2 HF2 HW2 HK2
  rw [show ([(v3, ((1 : Int), [(5 : UInt8), 220]))] : List (Value × Pure.Opt)).length = 1 from rfl]
  go_wp2_with fail
  refine HRU.out.mono ?_
  rintro e w4 ⟨u4, us4, rfl, hrow4, hus4, hk4⟩
  obtain ⟨A4, c4, rfl, _⟩ := hrow4.form
  have HUS4 := Lib.hid hus4
  have HK4 := Lib.hid (HK3.out.trans hk4)
  have HR4 := Lib.hid (HR3.out.keeps hk4)
  have HA4 := Lib.hid (asRules_any _ _ us4 w4 hrow4 (fun b hb => hb.2) (few_rules hus4).len)
  clear hrow4 hus4 hk4 HRU HR3 HK3
  go_wp2_with fail
  refine HA4.out.mono ?_
  rintro e w5 ⟨u5, qs5, rfl, hq5, hr5⟩
  obtain ⟨A5, c5, rfl⟩ := own_form hr5.own
  obtain ⟨hrow5, hf5, hfw5⟩ := few_made hr5 hq5 HUS4.out
  have HK5 := Lib.hid (HK4.out.trans hr5.kept)
  have HR5 := Lib.hid (HR4.out.keeps hr5.kept)
  obtain ⟨hz5, hkz5, hs5⟩ := lit_one w5 #[.int .u8 0, .int .u8 0, .int .u8 0, .int .u8 1] 5 [0, 0, 0, 1] 4 rfl rfl (by decide)
  have HNEW := newneg_any _ _ _ _ qs5 _ 3 3 _ (hrow5.keeps hkz5 (fun _ _ h => h)) hz5 (fun b hb => by rw [hs5]; exact hb.2) hfw5 fine_five ⟨by decide, by decide, by decide, by decide⟩
  rw [hf5, show optsOf [((.slice (some ⟨w5.heap.size, 0, none⟩) 4 4 : Value), (((5 : Int), [(0 : UInt8), 0, 0, 1]) : Pure.Opt))] = [((5 : Int), [(0 : UInt8), 0, 0, 1])] from rfl] at HNEW
  have HNEW := Lib.hid HNEW
  have HKZ5 := Lib.hid (HK5.out.trans hkz5)
  have HR5z := Lib.hid (HR5.out.keeps hkz5)
  clear hq5 hr5 hrow5 hf5 hfw5 hz5 hkz5 hs5 HA4 HUS4 HK4 HR4 HK5 HR5
  go_wp2_with fail
  refine HNEW.out.mono ?_
  rintro e w6 ⟨g, f, R, rfl, hobj, hgw, hmw, hRw, hk6⟩
  have HOBJ := Lib.hid hobj
  have HK6 := Lib.hid (HKZ5.out.trans hk6)
  have HR6 := Lib.hid (HR5z.out.keeps hk6)
  have HGW := Lib.hid (And.intro (Nat.le_trans HKZ5.out.size hgw) (And.intro (Nat.le_trans HKZ5.out.size hmw.1) hRw))
  clear hobj hgw hmw hRw hk6 HNEW
  have hrow6 := HR6.out.row
  obtain ⟨bq, oq, B3, d3, t3, l3, hA3, _, y0, y1, hrd, hpd⟩ := hrow6.pick 0 (by simp)
  subst hA3
  obtain ⟨rfl, rfl, rfl⟩ : v3 = .slice B3 l3.length d3 ∧ t3 = 1 ∧ l3 = [5, 220] := by
    have h : some (v3, ((1 : Int), [(5 : UInt8), 220])) = some (.slice B3 l3.length d3, (t3, l3)) := hpd
    injection h with h
    injection h with h1 h2
    injection h2 with h2 h3
    exact ⟨by rw [h1], h2.symm, h3.symm⟩
  rw [Nat.zero_mul, Nat.add_zero] at y0 y1
  have HRD := Lib.hid hrd
  clear hrow6 hrd hpd
  have HSM := Lib.hid (fun (W : World) (hk : Keeps nobody w6 W) (y : Value) (hy : Row W (fun b => True) 1 y ([5, 220] : List UInt8).length (u8s [5, 220])) => same_any _ _ _ y [5, 220] [5, 220] W (HRD.out.keeps hk (fun _ _ h => h)) hy)
  clear HRD HR6 HR5z HKZ5
  go_wp2_with fail
  have hk7 := (Keeps.refl nobody w6).alloc (.cells #[.int .u8 5, .int .u8 220] 5)
  have hb7 := Blk.new w6 5 #[.int .u8 5, .int .u8 220]
  have HS7 := HSM.out _ hk7 (.slice (some ⟨w6.heap.size, 0, none⟩) 2 2) (Row.block (F := fun _ => True) (n := 2) (c := 2) (size := 1) hb7 trivial rfl (by unfold maxLen; omega) (Nat.le_refl _))
  have HS7 := Lib.hid HS7
  have HOB7 := Lib.hid (HOBJ.out.keeps hk7 (fun h => h) (fun h => h) (fun _ _ h => h))
  have HK7 := Lib.hid (HK6.out.trans hk7)
  clear hk7 hb7 HSM HOBJ HK6
  refine HS7.out.mono ?_
  rintro e w8 ⟨rfl, hk8⟩
  have HOB8 := Lib.hid (HOB7.out.keeps hk8 (fun h => h) (fun h => h) (fun _ _ h => h))
  have HK8 := Lib.hid (HK7.out.trans hk8)
  clear hk8 HS7 HOB7 HK7
  have HUP := Lib.hid (do_up g R f _ w8 HOB8.out)
  go_wp2_with fail
  refine HUP.out.mono ?_
  rintro e w9 ⟨v9, rfl, hout9, hbec9⟩
  obtain ⟨sv9, ps9, rfl, _, _, _⟩ := hout9
  obtain ⟨f9, R9, hobj9, hgm9, hsub9, hk9⟩ := hbec9
  have HOB9 := Lib.hid hobj9
  have HK9 := Lib.hid (show Keeps nobody w w9 from HK8.out.trans' hk9 (fun i hi hl => by have h1 := HGW.out.1; have h2 := HGW.out.2.1; rcases hi with e | e <;> omega))
  have HG9 := Lib.hid (show w.heap.size ≤ f9.gm by rw [hgm9]; exact HGW.out.2.1)
  rw [Pure.neg_up] at HOB9
  have HOP := Lib.hid (do_other g R9 f9 _ 2 (.inr (.inl rfl)) w9 HOB9.out (by decide))
  clear hobj9 hgm9 hsub9 hk9 HUP HOB8 HK8
  rw [Pure.neg_open] at HOP
  go_wp2_with fail
  refine HOP.out.mono ?_
  rintro e w10 ⟨v10, rfl, hout10, hbec10⟩
  obtain ⟨sv10, ps10, rfl, hpr10, hps10, _⟩ := hout10
  obtain ⟨f10, R10, hobj10, hgm10, hsub10, hk10⟩ := hbec10
  have HK10 := Lib.hid (show Keeps nobody w w10 from HK9.out.trans' hk10 (fun i hi hl => by have h1 := HGW.out.1; have h2 := HG9.out; rcases hi with e | e <;> omega))
  have e4 : (Pure.options [((5 : Int), [(0 : UInt8), 0, 0, 1])]).2 = [5, 6, 0, 0, 0, 1] := by decide +kernel
  rw [e4] at *
  obtain ⟨v11, rfl⟩ := one_pkt (show ps10.map Prod.snd = [(⟨1, 1, [5, 6, 0, 0, 0, 1]⟩ : Pure.Pkt)] from hps10)
  obtain ⟨_, _, X10, c10, rfl, _, _, _⟩ := hpr10.out
  obtain ⟨bp, op, B5, d5, q5, hX5, _, z5, hr5, hp5⟩ := hpr10.pick 0 (by simp)
  subst hX5
  obtain ⟨rfl, rfl⟩ : v11 = .slice B5 q5.data.length d5 ∧ q5 = ⟨1, 1, [5, 6, 0, 0, 0, 1]⟩ := by
    have h : some (v11, (⟨1, 1, [5, 6, 0, 0, 0, 1]⟩ : Pure.Pkt)) = some (.slice B5 q5.data.length d5, q5) := hp5
    injection h with h
    injection h with h1 h2
    exact ⟨h1, h2.symm⟩
  rw [Nat.zero_mul, Nat.add_zero] at z5
  have z50 : w10.cell? ⟨bp, op, none⟩ = some (.int .i64 1) := z5 0 _ rfl
  have z51 : w10.cell? ⟨bp, op + 1, none⟩ = some (.int .i64 1) := z5 1 _ rfl
  have z52 : w10.cell? ⟨bp, op + 2, none⟩ = some (.slice B5 6 d5) := z5 2 _ rfl
  clear z5 hr5 hp5 hpr10 hps10 hobj10 hgm10 hsub10 hk10 HOP HOB9 HK9 HG9 HGW
  rw [show (Pure.sends [(⟨1, 1, [5, 6, 0, 0, 0, 1]⟩ : Pure.Pkt)]).up = false from rfl, show (Pure.sends [(⟨1, 1, [5, 6, 0, 0, 0, 1]⟩ : Pure.Pkt)]).down = false from rfl, show (Pure.sends [(⟨1, 1, [5, 6, 0, 0, 0, 1]⟩ : Pure.Pkt)]).start = false from rfl, show (Pure.sends [(⟨1, 1, [5, 6, 0, 0, 0, 1]⟩ : Pure.Pkt)]).done = false from rfl]
  rw [show ([(.slice B5 (⟨1, 1, [5, 6, 0, 0, 0, 1]⟩ : Pure.Pkt).data.length d5, (⟨1, 1, [5, 6, 0, 0, 0, 1]⟩ : Pure.Pkt))] : List (Value × Pure.Pkt)).length = 1 from rfl]
  go_wp2_with fail
  go_ret
  exact ⟨rfl, HK10.out.alloc _⟩
end Go.Proofs.Ytjomcffhbaplcaa
/- Chapter 13's statements: NegoKnown. -/
namespace Go.Proofs.Ytjomcffhbaplcaa
open Go.RowKit
theorem lit_two (W : World) (cs : Array Value) (t u : Int) (l : List UInt8) (n : Nat) (hc : cs = (u8s l).toArray) (hn : n = l.length) (hl : l.length ≤ 1000) :
    ORow ((W.alloc (.cells cs 5)).alloc (.cells #[.int .i64 t, .slice (some ⟨W.heap.size, 0, none⟩) n n, .int .i64 u, .slice none 0 0] 32)) (fun x => W.heap.size ≤ x ∧ x < W.heap.size + 2) (.slice (some ⟨W.heap.size + 1, 0, none⟩) 2 2) [(.slice (some ⟨W.heap.size, 0, none⟩) n n, (t, l)), (.slice none 0 0, (u, []))] ∧
      Keeps nobody W ((W.alloc (.cells cs 5)).alloc (.cells #[.int .i64 t, .slice (some ⟨W.heap.size, 0, none⟩) n n, .int .i64 u, .slice none 0 0] 32)) := by
  subst hc hn
  have e : (W.alloc (.cells (u8s l).toArray 5)).heap.size = W.heap.size + 1 := by simp
  have h1 := (Blk.new W 5 (u8s l).toArray).alloc (.cells #[.int .i64 t, .slice (some ⟨W.heap.size, 0, none⟩) l.length l.length, .int .i64 u, .slice none 0 0] 32)
  have h2 := Blk.new (W.alloc (.cells (u8s l).toArray 5)) 32 #[.int .i64 t, .slice (some ⟨W.heap.size, 0, none⟩) l.length l.length, .int .i64 u, .slice none 0 0]
  rw [e] at h2
  refine ⟨⟨Row.block (F := fun x => W.heap.size ≤ x ∧ x < W.heap.size + 2) (n := 2) (c := 2) (size := 2) h2 (by omega) rfl (by unfold maxLen; omega) (Nat.le_refl _), fun p hp => ?_⟩, ((Keeps.refl _ W).alloc _).alloc _⟩
  simp at hp
  rcases hp with rfl | rfl
  · have h := Row.block (F := fun x => W.heap.size ≤ x ∧ x < W.heap.size + 2) (n := l.length) (c := l.length) (size := 1) h1 (by omega) (by simp) (by unfold maxLen; omega) (Nat.le_refl _)
    simpa using h
  · exact Row.nil _ _ _
theorem judge_good : Pure.judge Pure.fewRules [((1 : Int), [(5 : UInt8), 220])] false = (2, [(1, [5, 220])]) := by decide +kernel
theorem judge_strange : Pure.judge Pure.fewRules [((1 : Int), [(5 : UInt8), 220]), (9, [])] false = (4, [(9, [])]) := by decide +kernel
theorem judge_great : Pure.judge Pure.fewRules [((1 : Int), [(7 : UInt8), 208])] true = (4, [(1, [7, 208])]) := by
  have h := Pure.few_great (b := [(7 : UInt8), 208]) rfl (by decide +kernel) true
  rw [h]
  rfl
set_option maxRecDepth 100000 in
set_option maxHeartbeats 8000000 in
theorem negoKnown_walk (w : World) : Calls Try.prog 3 #[] w fun e w' => e = .returned (.bool true) ∧ Below w.heap.size w w' := by
  have HAW := Lib.hid (awake_any w)
  go_enter Try.func3, Try.ntmps3
  go_wp2_with fail
  refine HAW.out.mono ?_
  rintro e w0 ⟨rfl, hk0⟩
  have HK0 := Lib.hid hk0
  have HR1 := Lib.hid (rules_any w0)
  clear hk0 HAW
  go_wp2_with fail
  refine HR1.out.mono ?_
  rintro e w1 ⟨u1, us1, rfl, hrow1, hus1, hk1⟩
  obtain ⟨A1, c1, rfl, _⟩ := hrow1.form
  have HUS1 := Lib.hid hus1
  have HK1 := Lib.hid (HK0.out.trans hk1)
  have HA1 := Lib.hid (asRules_any _ _ us1 w1 hrow1 (fun b hb => hb.2) (few_rules hus1).len)
  clear hrow1 hus1 hk1 HR1 HK0
  go_wp2_with fail
  refine HA1.out.mono ?_
  rintro e w2 ⟨u2, qs2, rfl, hq2, hr2⟩
  obtain ⟨A2, c2, rfl⟩ := own_form hr2.own
  obtain ⟨hrow2, hf2, hfw2⟩ := few_made hr2 hq2 HUS1.out
  have HF2 := Lib.hid hf2
  have HK2 := Lib.hid (HK1.out.trans hr2.kept)
  have HJ := Lib.hid (fun (W : World) (hk : Keeps nobody w2 W) (G : Nat → Prop) (x : Value) (zs : List (Value × Pure.Opt)) (b : Bool) (hz : ORow W G x zs) (hfz : FewOpts zs) => judge_any _ G _ _ qs2 zs b W (hrow2.keeps hk (fun _ _ h => h)) hz hfw2 hfz)
  clear hq2 hr2 hrow2 hf2 hfw2 HA1 HUS1 HK1
  go_wp2_with fail
  obtain ⟨hz1, hkz1, _⟩ := lit_one w2 #[.int .u8 5, .int .u8 220] 1 [5, 220] 2 rfl rfl (by decide)
  have HJ1 := HJ.out _ hkz1 _ _ _ false hz1 ⟨by simp, by simp⟩
  rw [HF2.out, show optsOf [((.slice (some ⟨w2.heap.size, 0, none⟩) 2 2 : Value), (((1 : Int), [(5 : UInt8), 220]) : Pure.Opt))] = [((1 : Int), [(5 : UInt8), 220])] from rfl, judge_good] at HJ1
  have HJ1 := Lib.hid HJ1
  have HKZ1 := Lib.hid hkz1
  clear hz1 hkz1
  refine HJ1.out.mono ?_
  rintro e w3 ⟨A3, c3, qs3, rfl, hq3, hr3⟩
  have HK3 := Lib.hid (HKZ1.out.trans (Keeps.new hr3.below))
  clear hq3 hr3 HJ1 HKZ1
  go_wp2_with fail
  obtain ⟨hz4, hkz4⟩ := lit_two w3 #[.int .u8 5, .int .u8 220] 1 9 [5, 220] 2 rfl rfl (by decide)
  have HJ4 := HJ.out _ (HK3.out.trans hkz4) _ _ _ false hz4 ⟨by simp, by simp⟩
  rw [HF2.out, show optsOf [((.slice (some ⟨w3.heap.size, 0, none⟩) 2 2 : Value), (((1 : Int), [(5 : UInt8), 220]) : Pure.Opt)), (.slice none 0 0, (9, []))] = [((1 : Int), [(5 : UInt8), 220]), (9, [])] from rfl, judge_strange] at HJ4
  have HJ4 := Lib.hid HJ4
  have HKZ4 := Lib.hid (HK3.out.trans hkz4)
  clear hz4 hkz4 HK3
  refine HJ4.out.mono ?_
  rintro e w4 ⟨A4, c4, qs4, rfl, hq4, hr4⟩
  obtain ⟨v4, rfl⟩ := one_of hq4
  have HR4 := Lib.hid hr4
  have HK4 := Lib.hid (HKZ4.out.trans (Keeps.new hr4.below))
  clear hq4 hr4 HJ4 HKZ4
  rw [show ([(v4, ((9 : Int), ([] : List UInt8)))] : List (Value × Pure.Opt)).length = 1 from rfl]
  go_wp2_with fail
  obtain ⟨hz5, hkz5, _⟩ := lit_one w4 #[.int .u8 7, .int .u8 208] 1 [7, 208] 2 rfl rfl (by decide)
  have HJ5 := HJ.out _ (HK4.out.trans hkz5) _ _ _ true hz5 ⟨by simp, by simp⟩
  rw [HF2.out, show optsOf [((.slice (some ⟨w4.heap.size, 0, none⟩) 2 2 : Value), (((1 : Int), [(7 : UInt8), 208]) : Pure.Opt))] = [((1 : Int), [(7 : UInt8), 208])] from rfl, judge_great] at HJ5
  have HJ5 := Lib.hid HJ5
  have HR5z := Lib.hid (HR4.out.keeps hkz5)
  have HKZ5 := Lib.hid (HK4.out.trans hkz5)
  clear hz5 hkz5 HK4 HR4
  refine HJ5.out.mono ?_
  rintro e w5 ⟨A5, c5, qs5, rfl, hq5, hr5⟩
  obtain ⟨v5, rfl⟩ := one_of hq5
  have HK5 := Lib.hid (HK2.out.trans (HKZ5.out.trans (Keeps.new hr5.below)))
  obtain ⟨p4, o4, B4, d4, t4, l4, e4, _, x40, x41, _, hp4⟩ := (HR5z.out.keeps (Keeps.new hr5.below)).row.pick 0 (by simp)
  obtain ⟨p5, o5, B5, d5, t5, l5, e5, _, x50, x51, hrd5, hp5⟩ := hr5.row.pick 0 (by simp)
  subst e4 e5
  obtain ⟨rfl, rfl, rfl⟩ : v4 = .slice B4 l4.length d4 ∧ t4 = 9 ∧ l4 = [] := by
    have h : some (v4, ((9 : Int), ([] : List UInt8))) = some (.slice B4 l4.length d4, (t4, l4)) := hp4
    injection h with h
    injection h with h1 h2
    injection h2 with h2 h3
    exact ⟨by rw [h1], h2.symm, h3.symm⟩
  obtain ⟨rfl, rfl, rfl⟩ : v5 = .slice B5 l5.length d5 ∧ t5 = 1 ∧ l5 = [7, 208] := by
    have h : some (v5, ((1 : Int), [(7 : UInt8), 208])) = some (.slice B5 l5.length d5, (t5, l5)) := hp5
    injection h with h
    injection h with h1 h2
    injection h2 with h2 h3
    exact ⟨by rw [h1], h2.symm, h3.symm⟩
  rw [Nat.zero_mul, Nat.add_zero] at x40 x50 x41 x51
  obtain ⟨_, _, A7, c7, e7, _, _, hh7⟩ := hrd5
  injection e7 with e7 _ e8
  subst e7 e8
  obtain ⟨bd, od, rfl, _, hcd⟩ := hh7 (by decide)
  have y0 : w5.cell? ⟨bd, od, none⟩ = some (.int .u8 7) := hcd 0 _ rfl
  clear hq5 hr5 HJ5 HR5z HKZ5 hp4 hp5 HJ HK2 HF2 hcd
  rw [show ∀ v : Value, ([(v, ((1 : Int), [(7 : UInt8), 208]))] : List (Value × Pure.Opt)).length = 1 from fun _ => rfl]
  go_wp2_with fail
  go_ret
  exact ⟨rfl, HK5.out.to_below⟩
end Go.Proofs.Ytjomcffhbaplcaa
