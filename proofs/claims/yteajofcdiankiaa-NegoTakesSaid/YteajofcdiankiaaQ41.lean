/- Chapter 13's statements: awake. -/
import Derived.Test.YteajofcdiankiaaQ40
import Derived.Test.YteajofcdiankiaaQ2
namespace Go.Proofs.Yteajofcdiankiaa
open Go.RowKit
/-- A literal list of one option. -/
theorem one_opt {w : World} {b b2 : Nat} {t : Int} {l : List UInt8} (h1 : Blk w b 5 (u8s l).toArray) (h2 : Blk w b2 32 #[.int .i64 t, .slice (some ⟨b, 0, none⟩) l.length l.length]) (hl : l.length ≤ 1000) :
    ORow w (fun x => x = b ∨ x = b2) (.slice (some ⟨b2, 0, none⟩) 1 1) [(.slice (some ⟨b, 0, none⟩) l.length l.length, (t, l))] := by
  refine ⟨Row.block (F := fun x => x = b ∨ x = b2) (n := 1) (c := 1) (size := 2) (cs := #[.int .i64 t, .slice (some ⟨b, 0, none⟩) l.length l.length]) h2 (.inr rfl) rfl (by unfold maxLen; omega) (Nat.le_refl _), fun p hp => ?_⟩
  simp at hp
  subst hp
  have h := Row.block (F := fun x => x = b ∨ x = b2) (n := l.length) (c := l.length) (size := 1) h1 (.inl rfl) (by simp) (by unfold maxLen; omega) (Nat.le_refl _)
  simpa using h
theorem lit_one (W : World) (cs : Array Value) (t : Int) (l : List UInt8) (n : Nat) (hc : cs = (u8s l).toArray) (hn : n = l.length) (hl : l.length ≤ 1000) :
    ORow ((W.alloc (.cells cs 5)).alloc (.cells #[.int .i64 t, .slice (some ⟨W.heap.size, 0, none⟩) n n] 32)) (fun x => W.heap.size ≤ x ∧ x < W.heap.size + 2) (.slice (some ⟨W.heap.size + 1, 0, none⟩) 1 1) [(.slice (some ⟨W.heap.size, 0, none⟩) n n, (t, l))] ∧
      Keeps nobody W ((W.alloc (.cells cs 5)).alloc (.cells #[.int .i64 t, .slice (some ⟨W.heap.size, 0, none⟩) n n] 32)) ∧ ((W.alloc (.cells cs 5)).alloc (.cells #[.int .i64 t, .slice (some ⟨W.heap.size, 0, none⟩) n n] 32)).heap.size = W.heap.size + 2 := by
  subst hc hn
  have e : (W.alloc (.cells (u8s l).toArray 5)).heap.size = W.heap.size + 1 := by simp
  have h1 := (Blk.new W 5 (u8s l).toArray).alloc (.cells #[.int .i64 t, .slice (some ⟨W.heap.size, 0, none⟩) l.length l.length] 32)
  have h2 := Blk.new (W.alloc (.cells (u8s l).toArray 5)) 32 #[.int .i64 t, .slice (some ⟨W.heap.size, 0, none⟩) l.length l.length]
  rw [e] at h2
  exact ⟨(one_opt h1 h2 hl).mono (fun x hx => by omega), ((Keeps.refl _ W).alloc _).alloc _, by simp⟩
/-- A list of one option. -/
theorem one_of {qs : List (Value × Pure.Opt)} {o : Pure.Opt} (h : optsOf qs = [o]) : ∃ v, qs = [(v, o)] := by
  match qs, h with
  | [(v, o')], h =>
    injection h with h1 _
    exact ⟨v, by rw [← h1]⟩
/-- A list of one packet. -/
theorem one_pkt {qs : List (Value × Pure.Pkt)} {o : Pure.Pkt} (h : qs.map Prod.snd = [o]) : ∃ v, qs = [(v, o)] := by
  match qs, h with
  | [(v, o')], h =>
    injection h with h1 _
    exact ⟨v, by rw [← h1]⟩
theorem fine_five : Pure.Fine [((5 : Int), [(0 : UInt8), 0, 0, 1])] := ⟨by decide, by decide +kernel⟩
theorem judge_awake : Pure.judge Pure.fewRules [((1 : Int), [(7 : UInt8), 208])] false = (3, [(1, [5, 220])]) := by
  have h := Pure.few_great (b := [(7 : UInt8), 208]) rfl (by decide +kernel) false
  rw [h]
  decide +kernel
set_option maxRecDepth 100000 in
set_option maxHeartbeats 8000000 in
theorem awake_any (w : World) : Calls Try.prog 6 #[] w fun e w' => e = .returned (.bool true) ∧ Keeps nobody w w' := by
  have HR1 := Lib.hid (rules_any w)
  go_enter Try.func6, Try.ntmps6
  go_wp2_with fail
  refine HR1.out.mono ?_
  rintro e w1 ⟨u1, us1, rfl, hrow1, hus1, hk1⟩
  obtain ⟨A1, c1, rfl, _⟩ := hrow1.form
  have HUS1 := Lib.hid hus1
  have HK1 := Lib.hid hk1
  have HA1 := Lib.hid (asRules_any _ _ us1 w1 hrow1 (fun b hb => hb.2) (few_rules hus1).len)
  clear hrow1 hus1 hk1 HR1
  go_wp2_with fail
  refine HA1.out.mono ?_
  rintro e w2 ⟨u2, qs2, rfl, hq2, hr2⟩
  obtain ⟨A2, c2, rfl⟩ := own_form hr2.own
  obtain ⟨hrow2, hf2, hfw2⟩ := few_made hr2 hq2 HUS1.out
  have HROW2 := Lib.hid hrow2
  have HF2 := Lib.hid hf2
  have HW2 := Lib.hid hfw2
  have HK2 := Lib.hid (HK1.out.trans hr2.kept)
  have HJ := Lib.hid (fun (W : World) (hk : Keeps nobody w2 W) (G : Nat → Prop) (x : Value) (zs : List (Value × Pure.Opt)) (hz : ORow W G x zs) (hfz : FewOpts zs) => judge_any _ G _ _ qs2 zs false W (hrow2.keeps hk (fun _ _ h => h)) hz hfw2 hfz)
  clear hq2 hr2 hrow2 hf2 hfw2 HA1 HUS1 HK1
  go_wp2_with fail
  obtain ⟨hz1, hkz1, _⟩ := lit_one w2 #[.int .u8 7, .int .u8 208] 1 [7, 208] 2 rfl rfl (by decide)
  have HJ1 := HJ.out _ hkz1 _ _ _ hz1 ⟨by simp, by simp⟩
  rw [HF2.out, show optsOf [((.slice (some ⟨w2.heap.size, 0, none⟩) 2 2 : Value), (((1 : Int), [(7 : UInt8), 208]) : Pure.Opt))] = [((1 : Int), [(7 : UInt8), 208])] from rfl, judge_awake] at HJ1
  have HJ1 := Lib.hid HJ1
  have HKZ1 := Lib.hid (HK2.out.trans hkz1)
  clear hz1 hkz1 HJ
  refine HJ1.out.mono ?_
  rintro e w3 ⟨A3, c3, qs3, rfl, hq3, hr3⟩
  obtain ⟨v3, rfl⟩ := one_of hq3
  have HR3 := Lib.hid hr3
  have HK3 := Lib.hid (HKZ1.out.trans (Keeps.new hr3.below))
  have HRU := Lib.hid (rules_any w3)
  clear hq3 hr3 HJ1 HKZ1 HROW2 HF2 HW2 HK2
  rw [show ([(v3, ((1 : Int), [(5 : UInt8), 220]))] : List (Value × Pure.Opt)).length = 1 from rfl]
  go_wp2_with fail
  refine HRU.out.mono ?_
  rintro e w4 ⟨u4, us4, rfl, hrow4, hus4, hk4⟩
  obtain ⟨A4, c4, rfl, _⟩ := hrow4.form
  have HUS4 := Lib.hid hus4
  have HK4 := Lib.hid (HK3.out.trans hk4)
  have HR4 := Lib.hid (HR3.out.keeps hk4)
  have HA4 := Lib.hid (asRules_any _ _ us4 w4 hrow4 (fun b hb => hb.2) (few_rules hus4).len)
  clear hrow4 hus4 hk4 HRU HR3 HK3
  go_wp2_with fail
  refine HA4.out.mono ?_
  rintro e w5 ⟨u5, qs5, rfl, hq5, hr5⟩
  obtain ⟨A5, c5, rfl⟩ := own_form hr5.own
  obtain ⟨hrow5, hf5, hfw5⟩ := few_made hr5 hq5 HUS4.out
  have HK5 := Lib.hid (HK4.out.trans hr5.kept)
  have HR5 := Lib.hid (HR4.out.keeps hr5.kept)
  obtain ⟨hz5, hkz5, hs5⟩ := lit_one w5 #[.int .u8 0, .int .u8 0, .int .u8 0, .int .u8 1] 5 [0, 0, 0, 1] 4 rfl rfl (by decide)
  have HNEW := newneg_any _ _ _ _ qs5 _ 3 3 _ (hrow5.keeps hkz5 (fun _ _ h => h)) hz5 (fun b hb => by rw [hs5]; exact hb.2) hfw5 fine_five ⟨by decide, by decide, by decide, by decide⟩
  rw [hf5, show optsOf [((.slice (some ⟨w5.heap.size, 0, none⟩) 4 4 : Value), (((5 : Int), [(0 : UInt8), 0, 0, 1]) : Pure.Opt))] = [((5 : Int), [(0 : UInt8), 0, 0, 1])] from rfl] at HNEW
  have HNEW := Lib.hid HNEW
  have HKZ5 := Lib.hid (HK5.out.trans hkz5)
  have HR5z := Lib.hid (HR5.out.keeps hkz5)
  clear hq5 hr5 hrow5 hf5 hfw5 hz5 hkz5 hs5 HA4 HUS4 HK4 HR4 HK5 HR5
  go_wp2_with fail
  refine HNEW.out.mono ?_
  rintro e w6 ⟨g, f, R, rfl, hobj, hgw, hmw, hRw, hk6⟩
  have HOBJ := Lib.hid hobj
  have HK6 := Lib.hid (HKZ5.out.trans hk6)
  have HR6 := Lib.hid (HR5z.out.keeps hk6)
  have HGW := Lib.hid (And.intro (Nat.le_trans HKZ5.out.size hgw) (And.intro (Nat.le_trans HKZ5.out.size hmw) hRw))
  clear hobj hgw hmw hRw hk6 HNEW
  have hrow6 := HR6.out.row
  obtain ⟨bq, oq, B3, d3, t3, l3, hA3, _, y0, y1, hrd, hpd⟩ := hrow6.pick 0 (by simp)
  subst hA3
  obtain ⟨rfl, rfl, rfl⟩ : v3 = .slice B3 l3.length d3 ∧ t3 = 1 ∧ l3 = [5, 220] := by
    have h : some (v3, ((1 : Int), [(5 : UInt8), 220])) = some (.slice B3 l3.length d3, (t3, l3)) := hpd
    injection h with h
    injection h with h1 h2
    injection h2 with h2 h3
    exact ⟨by rw [h1], h2.symm, h3.symm⟩
  rw [Nat.zero_mul, Nat.add_zero] at y0 y1
  have HRD := Lib.hid hrd
  clear hrow6 hrd hpd
  have HSM := Lib.hid (fun (W : World) (hk : Keeps nobody w6 W) (y : Value) (hy : Row W (fun b => True) 1 y ([5, 220] : List UInt8).length (u8s [5, 220])) => same_any _ _ _ y [5, 220] [5, 220] W (HRD.out.keeps hk (fun _ _ h => h)) hy)
  clear HRD HR6 HR5z HKZ5
  go_wp2_with fail
  have hk7 := (Keeps.refl nobody w6).alloc (.cells #[.int .u8 5, .int .u8 220] 5)
  have hb7 := Blk.new w6 5 #[.int .u8 5, .int .u8 220]
  have HS7 := HSM.out _ hk7 (.slice (some ⟨w6.heap.size, 0, none⟩) 2 2) (Row.block (F := fun _ => True) (n := 2) (c := 2) (size := 1) hb7 trivial rfl (by unfold maxLen; omega) (Nat.le_refl _))
  have HS7 := Lib.hid HS7
  have HOB7 := Lib.hid (HOBJ.out.keeps hk7 (fun h => h) (fun h => h) (fun _ _ h => h))
  have HK7 := Lib.hid (HK6.out.trans hk7)
  clear hk7 hb7 HSM HOBJ HK6
  refine HS7.out.mono ?_
  rintro e w8 ⟨rfl, hk8⟩
  have HOB8 := Lib.hid (HOB7.out.keeps hk8 (fun h => h) (fun h => h) (fun _ _ h => h))
  have HK8 := Lib.hid (HK7.out.trans hk8)
  clear hk8 HS7 HOB7 HK7
  have HUP := Lib.hid (do_up g R f _ w8 HOB8.out)
  go_wp2_with fail
  refine HUP.out.mono ?_
  rintro e w9 ⟨v9, rfl, hout9, hbec9⟩
  obtain ⟨sv9, ps9, rfl, _, _, _⟩ := hout9
  obtain ⟨f9, R9, hobj9, hgm9, hsub9, hk9⟩ := hbec9
  have HOB9 := Lib.hid hobj9
  have HK9 := Lib.hid (show Keeps nobody w w9 from HK8.out.trans' hk9 (fun i hi hl => by have h1 := HGW.out.1; have h2 := HGW.out.2.1; rcases hi with e | e <;> omega))
  have HG9 := Lib.hid (show w.heap.size ≤ f9.gm by rw [hgm9]; exact HGW.out.2.1)
  rw [Pure.neg_up] at HOB9
  have HOP := Lib.hid (do_other g R9 f9 _ 2 (.inr (.inl rfl)) w9 HOB9.out (by decide))
  clear hobj9 hgm9 hsub9 hk9 HUP HOB8 HK8
  rw [Pure.neg_open] at HOP
  go_wp2_with fail
  refine HOP.out.mono ?_
  rintro e w10 ⟨v10, rfl, hout10, hbec10⟩
  obtain ⟨sv10, ps10, rfl, hpr10, hps10, _⟩ := hout10
  obtain ⟨f10, R10, hobj10, hgm10, hsub10, hk10⟩ := hbec10
  have HK10 := Lib.hid (show Keeps nobody w w10 from HK9.out.trans' hk10 (fun i hi hl => by have h1 := HGW.out.1; have h2 := HG9.out; rcases hi with e | e <;> omega))
  have e4 : (Pure.options [((5 : Int), [(0 : UInt8), 0, 0, 1])]).2 = [5, 6, 0, 0, 0, 1] := by decide +kernel
  rw [e4] at *
  obtain ⟨v11, rfl⟩ := one_pkt (show ps10.map Prod.snd = [(⟨1, 1, [5, 6, 0, 0, 0, 1]⟩ : Pure.Pkt)] from hps10)
  obtain ⟨_, _, X10, c10, rfl, _, _, _⟩ := hpr10.out
  obtain ⟨bp, op, B5, d5, q5, hX5, _, z5, hr5, hp5⟩ := hpr10.pick 0 (by simp)
  subst hX5
  obtain ⟨rfl, rfl⟩ : v11 = .slice B5 q5.data.length d5 ∧ q5 = ⟨1, 1, [5, 6, 0, 0, 0, 1]⟩ := by
    have h : some (v11, (⟨1, 1, [5, 6, 0, 0, 0, 1]⟩ : Pure.Pkt)) = some (.slice B5 q5.data.length d5, q5) := hp5
    injection h with h
    injection h with h1 h2
    exact ⟨h1, h2.symm⟩
  rw [Nat.zero_mul, Nat.add_zero] at z5
  have z50 : w10.cell? ⟨bp, op, none⟩ = some (.int .i64 1) := z5 0 _ rfl
  have z51 : w10.cell? ⟨bp, op + 1, none⟩ = some (.int .i64 1) := z5 1 _ rfl
  have z52 : w10.cell? ⟨bp, op + 2, none⟩ = some (.slice B5 6 d5) := z5 2 _ rfl
  clear z5 hr5 hp5 hpr10 hps10 hobj10 hgm10 hsub10 hk10 HOP HOB9 HK9 HG9 HGW
  rw [show (Pure.sends [(⟨1, 1, [5, 6, 0, 0, 0, 1]⟩ : Pure.Pkt)]).up = false from rfl, show (Pure.sends [(⟨1, 1, [5, 6, 0, 0, 0, 1]⟩ : Pure.Pkt)]).down = false from rfl, show (Pure.sends [(⟨1, 1, [5, 6, 0, 0, 0, 1]⟩ : Pure.Pkt)]).start = false from rfl, show (Pure.sends [(⟨1, 1, [5, 6, 0, 0, 0, 1]⟩ : Pure.Pkt)]).done = false from rfl]
  rw [show ([(.slice B5 (⟨1, 1, [5, 6, 0, 0, 0, 1]⟩ : Pure.Pkt).data.length d5, (⟨1, 1, [5, 6, 0, 0, 0, 1]⟩ : Pure.Pkt))] : List (Value × Pure.Pkt)).length = 1 from rfl]
  go_wp2_with fail
  go_ret
  exact ⟨rfl, HK10.out.alloc _⟩
end Go.Proofs.Yteajofcdiankiaa
/- The document's Copy. -/
namespace Go.Proofs.Yteajofcdiankiaa
open Go.RowKit

set_option maxHeartbeats 1000000 in
theorem copy_any (F : Nat → Prop) (x : Value) (bs : List UInt8) (w : World) (hr : Row w F 1 x bs.length (u8s bs)) (hF : ∀ b, F b → b < w.heap.size) (hl : bs.length ≤ 100000000000000) :
    Calls Try.prog 34 #[x] w fun e w' => ∃ u, e = .returned u ∧ w'.ownsRow w.heap.size 5 1 u bs.length (u8s bs) ∧ Below w.heap.size w w' := by
  obtain ⟨A, c, rfl, hc⟩ := hr.form
  have hm := hr.2.1
  unfold maxLen at hm
  have HR := Lib.hid hr
  have HF := Lib.hid hF
  clear hr hF
  obtain ⟨i0, hi0, hz0, hz1, hz2⟩ := info_parts u8_info
  have I := Lib.hid (And.intro hi0 (And.intro hz0 (And.intro hz1 hz2)))
  clear hi0 hz0 hz1 hz2
  go_enter Try.func34, Try.ntmps34
  go_wp2_with fail
  go_loopw [3, 4] (fun u i wr => ∃ k : Nat, k ≤ bs.length ∧ i = .int .i64 k ∧ wr.ownsRow w.heap.size 5 1 u k (u8s (bs.take k)) ∧ Below w.heap.size w wr) (fun _ i _ => bs.length - (intOf i).toNat)
  case atStart => exact ⟨0, by omega, rfl, ⟨by simp, .inl ⟨rfl, rfl⟩⟩, Below.refl _ _⟩
  case round =>
    obtain ⟨k, hk, rfl, hown, hb⟩ := hrel
    have O := Lib.hid hown
    have B := Lib.hid hb
    clear hown hb
    by_cases hlt : k < bs.length
    · obtain ⟨b, off, rfl, hbF, hcell⟩ := (HR.out.keeps (Keeps.new B.out) (fun _ _ h => h)).cellAt (by omega)
      have cb := hcell k _ (u8s_at bs k hlt)
      obtain ⟨X, hX⟩ : ∃ X : Nat, X = (bs.getD k 0).toNat := ⟨_, rfl⟩
      have hX2 : X < 256 := by rw [hX]; exact (bs.getD k 0).toNat_lt
      rw [← hX] at cb
      have HXX := Lib.hid hX
      have hi0 : (0 : Int) ≤ (k : Int) := by omega
      have hi1 : (k : Int) < (bs.length : Int) := by omega
      have hrow1 : Row (wr.alloc (.cells #[.int .u8 X] 5)) (fun _ => True) 1 (.slice (some ⟨wr.heap.size, 0, none⟩) 1 1) 1 [.int .u8 X] :=
        Row.block (Blk.new wr 5 #[.int .u8 X]) trivial rfl (by simp [maxLen]) (Nat.le_refl _)
      have HRow := Lib.hid hrow1
      have hsz := B.out.size
      clear hX hcell hrow1
      go_wp2_with (at_builtin; refine stopHere ?_)
      unfold Hid
      obtain ⟨hi0', hz0, hz1, hz2⟩ := I.out
      refine wpList_append_row rfl (.tmp 11) (.tmp 16) _ rfl w.heap.size 5 i0 _ 1 1 Try.underlying30 hi0' hz0 hz1 hz2 rfl (by omega) u3 k (u8s (bs.take k))
        rfl (O.out.alloc _) _ _ 1 [.int .u8 X] rfl HRow.out (by simp [Value.oneCell']) (by simp only [maxLen]; omega) (by omega) (by simp; omega) ?_
      intro v3 w3 hown3 hg3 hat3
      have hown3' : w3.ownsRow w.heap.size 5 1 v3 (k + 1) (u8s (bs.take (k + 1))) := by
        have e1 : u8s (bs.take k) ++ [.int .u8 X] = u8s (bs.take (k + 1)) := by
          rw [List.take_succ_eq_append_getElem hlt]
          have := HXX.out
          rw [List.getD_eq_getElem?_getD, List.getElem?_eq_getElem hlt] at this
          rw [this]
          simp only [List.map_append, List.map_cons, List.map_nil, Option.getD_some]
        rw [← e1]
        exact hown3
      have hb3 := Below.grown (B.out.alloc hsz (.cells #[.int .u8 X] 5)) hg3 (by simp; omega) (fun q hq => (ownsRow_ge O.out q hq))
      have O3 := Lib.hid hown3'
      have B3 := Lib.hid hb3
      clear hown3 hown3' hg3 hat3 hb3 hi0' hz0 hz1 hz2 cb
      go_wp2
      go_roundw
      case rel => exact ⟨k + 1, by omega, by go_num, O3.out, B3.out⟩
      case measure => simp [intOf]; omega
    · have hk' : k = bs.length := by omega
      have e : bs.take k = bs := by rw [hk', List.take_length]
      rw [e, hk'] at O
      clear e hk'
      go_wp2
      go_ret
      exact ⟨_, rfl, O.out, B.out⟩

end Go.Proofs.Yteajofcdiankiaa
/- A piece of a row of bytes whose capacity may end where it begins. -/
namespace Go.Proofs.Yteajofcdiankiaa
open Go.RowKit

/-- A piece of a row of bytes. -/
def cutV (a : Option Addr) (c lo m : Nat) : Value := if c = lo then .slice a m 0 else .slice (a.map (fun x => x.add lo)) m (c - lo)
theorem Row.cutV {w : World} {F : Nat → Prop} {a : Option Addr} {n c : Nat} {bs : List UInt8} (h : Row w F 1 (.slice a n c) n (u8s bs)) (lo m : Nat) (hm : lo + m ≤ n) :
    Row w F 1 (cutV a c lo m) m (u8s ((bs.drop lo).take m)) := by
  have e : u8s ((bs.drop lo).take m) = ((u8s bs).drop lo).take m := by simp
  rw [e]
  unfold Go.Proofs.Yteajofcdiankiaa.cutV
  split
  · rename_i hc
    subst hc
    exact h.cutEnd m hm
  · exact h.cut1 lo m hm
theorem cut_value' (a : Option Addr) (c q m : Nat) : Value.slice (if c = q then a else Option.map (fun x => x.add q) a) m (c - q) = cutV a c q m := by
  unfold cutV
  by_cases h : c = q
  · rw [if_pos h, if_pos h, h, Nat.sub_self]
  · rw [if_neg h, if_neg h]
end Go.Proofs.Yteajofcdiankiaa
