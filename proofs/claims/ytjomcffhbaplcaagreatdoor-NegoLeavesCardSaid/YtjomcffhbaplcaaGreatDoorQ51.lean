/- Chapter 13's statements: NegoLeaves. -/
import Derived.Test.YtjomcffhbaplcaaGreatDoorQ50
import Derived.Test.YtjomcffhbaplcaaGreatDoorQ4
namespace Go.Proofs.YtjomcffhbaplcaaGreatDoor
open Go.RowKit
abbrev typesOf (bs : List UInt8) : List Int := bs.map fun b => ((b.toNat : Nat) : Int)
theorem types_snoc (bs : List UInt8) (k : Nat) (h : k < bs.length) : typesOf (bs.take (k + 1)) = typesOf (bs.take k) ++ [(((bs.getD k 0).toNat : Nat) : Int)] := by
  have e : bs.take (k + 1) = bs.take k ++ [bs.getD k 0] := by
    rw [List.take_add_one, List.getD_eq_getElem?_getD, List.getElem?_eq_getElem h]
    rfl
  rw [e, typesOf, List.map_append]
  rfl
theorem types_known (bs : List UInt8) (k : Nat) (t : Int) (h : k < bs.length) : decide (t ∈ typesOf (bs.take (k + 1))) = (decide (t ∈ typesOf (bs.take k)) || decide (t = (((bs.getD k 0).toNat : Nat) : Int))) := by
  rw [types_snoc bs k h]
  simp [List.mem_append]
theorem filter_snoc (p : Pure.Opt → Bool) (l : List Pure.Opt) (k : Nat) (o : Pure.Opt) (h : l[k]? = some o) : (l.take (k + 1)).filter p = (l.take k).filter p ++ if p o = true then [o] else [] := by
  rw [List.take_add_one, h, List.filter_append]
  by_cases hp : p o = true <;> simp [hp]
theorem picked_snoc {p : Pure.Opt → Bool} {l : List Pure.Opt} {k : Nat} {t : Int} {D : List UInt8} {v : Value} {qs : List (Value × Pure.Opt)} (h : (l.take (k + 1)).filter p = (l.take k).filter p ++ if p (t, D) = true then [(t, D)] else []) (hp : p (t, D) = true) (hq : optsOf qs = (l.take k).filter p) : optsOf (qs ++ [(v, (t, D))]) = (l.take (k + 1)).filter p := by
  rw [h, if_pos hp, ← hq]
  simp [optsOf]
/-- Options of an argument that were picked one by one. -/
structure Picked (w0 w : World) (v : Value) (qs : List (Value × Pure.Opt)) : Prop where
  own : w.ownsRow w0.heap.size 54 2 v qs.length (optCells qs)
  rows : ∀ p ∈ qs, Row w (fun b => b < w0.heap.size) 1 p.1 p.2.2.length (u8s p.2.2)
  kept : Keeps nobody w0 w
theorem Picked.nil (w : World) : Picked w w (.slice none 0 0) [] := ⟨World.ownsRow_nil _ _ _ _, by simp, Keeps.refl _ _⟩
theorem Picked.keeps {w0 w w' : World} {v : Value} {qs : List (Value × Pure.Opt)} (h : Picked w0 w v qs) (k : Keeps nobody w w') : Picked w0 w' v qs :=
  ⟨ownsRow_keeps h.own k (fun _ _ h => h), fun p hp => (h.rows p hp).keeps k (fun _ _ h => h), h.kept.trans k⟩
theorem Picked.form {w0 w : World} {v : Value} {qs : List (Value × Pure.Opt)} (h : Picked w0 w v qs) : ∃ A c, v = .slice A qs.length c := own_form h.own
theorem Picked.row {w0 w : World} {v : Value} {qs : List (Value × Pure.Opt)} (h : Picked w0 w v qs) : ORow w (fun _ => True) v qs :=
  ⟨(Row.of_own h.own).mono (fun _ _ => trivial), fun p hp => (h.rows p hp).mono (fun _ _ => trivial)⟩
theorem wp_append_picked {w0 w : World} {o : Oper} {a : Act} {Q : Exit → Act → World → Prop} {ops : Array Oper} {rest : List Oper} (hgd : o.guard = none) (s x : Operand) (ho : o.op = .call { callee := .builtin .append, args := #[s, x], argTypes := #[22, 22] })
    (v : Value) (qs : List (Value × Pure.Opt)) (A3 : Option Addr) (c3 : Nat) (t : Int) (D : List UInt8) (hs : a.eval s = v) (hx : a.eval x = .slice (some ⟨w.heap.size, 0, none⟩) 1 1) (hR : Picked w0 w v qs) (hq : qs.length ≤ 1000000)
    (hd : Row w (fun b => b < w0.heap.size) 1 (.slice A3 D.length c3) D.length (u8s D))
    (h : ∀ A c w', Picked w0 w' (.slice A (qs.length + 1) c) (qs ++ [(.slice A3 D.length c3, (t, D))]) → wpList Tryz.prog ops Q rest (a.put o.dst (.slice A (qs.length + 1) c)) w') :
    wpList Tryz.prog ops Q (o :: rest) a (w.alloc (.cells #[.int .i64 t, .slice A3 D.length c3] 54)) := by
  obtain ⟨i0, hi0, hz0, hz1, hz2⟩ := info_parts opt_info
  obtain ⟨wb, hwb⟩ : ∃ wb, wb = w.alloc (.cells (optCells [(.slice A3 D.length c3, (t, D))]).toArray 54) := ⟨_, rfl⟩
  have hwb' : w.alloc (.cells #[.int .i64 t, .slice A3 D.length c3] 54) = wb := hwb.symm
  rw [hwb']
  have hkb : Keeps nobody w wb := by rw [hwb]; exact (Keeps.refl _ w).alloc _
  have hbb : Blk wb w.heap.size 54 (optCells [(.slice A3 D.length c3, (t, D))]).toArray := by rw [hwb]; exact Blk.new w _ _
  have hrb : Row wb (fun b => b = w.heap.size) 2 (.slice (some ⟨w.heap.size, 0, none⟩) 1 1) 1 (optCells [(.slice A3 D.length c3, (t, D))]) := by
    have h := Row.block (F := fun b => b = w.heap.size) (n := 1) (c := 1) (size := 2) hbb rfl rfl (by unfold maxLen; omega) (Nat.le_refl _)
    exact h
  have hPb := hR.keeps hkb
  have hone : ∀ p ∈ ([(.slice A3 D.length c3, (t, D))] : List (Value × Pure.Opt)), p.1.oneCell' = true := by
    intro p hp
    simp at hp
    subst hp
    rfl
  refine wpList_append_row hgd s x _ ho w0.heap.size 54 i0 _ 2 32 Tryz.underlying22 hi0 hz0 hz1 hz2 rfl (by omega) v _ (optCells qs) hs hPb.own _ _ 1 (optCells [(.slice A3 D.length c3, (t, D))]) hx hrb (optCells_one _ hone) (by unfold maxLen; omega) (by omega) hPb.kept.size ?_
  intro v3 w3 hown3 hg3 hat3
  have hcat : optCells qs ++ optCells [(.slice A3 D.length c3, (t, D))] = optCells (qs ++ [(.slice A3 D.length c3, (t, D))]) := by simp [optCells]
  rw [hcat] at hown3
  have hkw : Keeps (fun b => v.ownBlock = some b) wb w3 := (Keeps.refl _ wb).grown hg3 (fun k hk _ => hk)
  have hge : ∀ b, v.ownBlock = some b → w0.heap.size ≤ b := fun b hb => ownsRow_ge hPb.own b hb
  have hread : Picked w0 w3 v3 (qs ++ [(.slice A3 D.length c3, (t, D))]) := by
    refine ⟨by rw [List.length_append]; exact hown3, fun p hp => ?_, hPb.kept.trans' hkw (fun i hi hl => by have := hge i hi; omega)⟩
    have hrow : Row w (fun b => b < w0.heap.size) 1 p.1 p.2.2.length (u8s p.2.2) := by
      rcases List.mem_append.1 hp with hp | hp
      · exact hR.rows p hp
      · simp at hp
        subst hp
        exact hd
    exact (hrow.keeps hkb (fun _ _ h => h)).keeps hkw (fun b hb e => by have := hge b e; omega)
  obtain ⟨A4, c4, rfl⟩ := own_form hown3
  exact h A4 c4 w3 hread
theorem measure_up14 {k m : Nat} (h : k < m) : m - (intOf (.int .i64 ((k : Int) + 1))).toNat < m - (intOf (.int .i64 (k : Int))).toNat := by
  show m - ((k : Int) + 1).toNat < m - ((k : Int)).toNat
  omega
set_option maxRecDepth 100000 in
set_option maxHeartbeats 8000000 in
theorem negoLeaves_walk' (x y : Value) (zs : List (Value × Pure.Opt)) (bs : List UInt8) (w : World) (env : Env13 w) (hx : ORow w (fun b => b < w.heap.size) x zs) (hy : Row w (fun b => b < w.heap.size) 1 y bs.length (u8s bs)) :
    Calls Tryz.prog 6 #[x, y] w fun e w' => e = .returned (.bool true) ∧ Below w.heap.size w w' := by
  obtain ⟨X, cx, rfl, _⟩ := hx.form
  obtain ⟨Y, cy, rfl, _⟩ := hy.form
  have HX := Lib.hid hx
  have HENV := Lib.hid env
  have HAW := Lib.hid (awake_any w)
  obtain ⟨lx, hlx⟩ : ∃ q, q = zs.length := ⟨_, rfl⟩
  obtain ⟨ly, hly⟩ : ∃ q, q = bs.length := ⟨_, rfl⟩
  have HLX := Lib.hid hlx
  have HLY := Lib.hid hly
  rw [← hlx, ← hly]
  rw [← hly] at hy
  have HY := Lib.hid hy
  clear hx hy env hlx hly
  go_enter Tryz.func6, Tryz.ntmps6
  go_wp2_with fail
  refine HAW.out.mono ?_
  rintro e w1 ⟨rfl, hk1⟩
  have HK1 := Lib.hid hk1
  clear hk1 HAW
  by_cases h20 : 20 < lx
  · have d1 : decide ((20 : Int) < (lx : Int)) = true := decide_eq_true (by omega)
    have d2 : decide (20 < lx) = true := decide_eq_true h20
    go_wp2_with fail
    go_ret
    exact ⟨rfl, HK1.out.to_below⟩
  have d1 : decide ((20 : Int) < (lx : Int)) = false := decide_eq_false (by omega)
  have d2 : decide (20 < lx) = false := decide_eq_false h20
  have H20 := Lib.hid h20
  clear h20
  have hc2 := small_any _ _ zs w1 (HX.out.keeps HK1.out (fun _ _ h => h))
  rw [← HLX.out] at hc2
  obtain ⟨S2, hS2⟩ : ∃ S, S = decide (smallOpts (optsOf zs)) := ⟨_, rfl⟩
  rw [← hS2] at hc2
  have HC2 := Lib.hid hc2
  have HS2 := Lib.hid hS2
  clear hc2 hS2
  go_wp2_with fail
  refine HC2.out.mono ?_
  rintro e w2 ⟨rfl, hw2⟩
  have HK2 := Lib.hid (show Keeps nobody w w2 by rw [hw2]; exact HK1.out)
  clear hw2 HC2
  cases S2
  · go_wp2_with fail
    go_ret
    exact ⟨rfl, HK2.out.to_below⟩
  have H2 := Lib.hid (show smallOpts (optsOf zs) from of_decide_eq_true HS2.out.symm)
  clear HS2
  by_cases h40 : 40 < ly
  · have d3 : decide ((40 : Int) < (ly : Int)) = true := decide_eq_true (by omega)
    have d4 : decide (40 < ly) = true := decide_eq_true h40
    go_wp2_with fail
    go_ret
    exact ⟨rfl, HK2.out.to_below⟩
  have d3 : decide ((40 : Int) < (ly : Int)) = false := decide_eq_false (by omega)
  have d4 : decide (40 < ly) = false := decide_eq_false h40
  have H40 := Lib.hid h40
  clear h40
  have hc4 := apart_any _ _ zs w2 (HX.out.keeps HK2.out (fun _ _ h => h))
  rw [← HLX.out] at hc4
  obtain ⟨S4, hS4⟩ : ∃ S, S = decide (Pure.Apart (optsOf zs)) := ⟨_, rfl⟩
  rw [← hS4] at hc4
  have HC4 := Lib.hid hc4
  have HS4 := Lib.hid hS4
  clear hc4 hS4
  go_wp2_with fail
  refine HC4.out.mono ?_
  rintro e w5 ⟨rfl, nd4, hw4⟩
  have HK5 := Lib.hid (HK2.out.trans (Keeps.of_drewN hw4))
  clear hw4 HC4 d1 d2 d3 d4
  cases S4
  · go_wp2_with fail
    go_ret
    exact ⟨rfl, HK5.out.to_below⟩
  have H4 := Lib.hid (show Pure.Apart (optsOf zs) from of_decide_eq_true HS4.out.symm)
  clear HS4
  go_wp2_with fail
  go_loopw [5, 7] (fun v i wr => ∃ k : Nat, k ≤ 256 ∧ i = .int .i64 (k : Int) ∧ RAny w5 wr v ((List.range k).map fun t => ((t : Nat) : Int)) ∧ Keeps nobody w5 wr) (fun _ i _ => 256 - (intOf i).toNat)
  case atStart => exact ⟨0, by omega, rfl, RAny.nil _, Keeps.refl _ _⟩
  case round =>
    obtain ⟨k, hk, rfl, hr, hkw⟩ := hrel
    obtain ⟨A6, c6, hv⟩ := hr.form
    obtain ⟨ts, hts⟩ : ∃ ts, ts = (List.range k).map fun t => ((t : Nat) : Int) := ⟨_, rfl⟩
    have hl : ts.length = k := by rw [hts]; simp
    rw [← hts, hl] at hv
    rw [← hts] at hr
    subst hv
    have HR := Lib.hid hr
    have HKW := Lib.hid hkw
    have HTS := Lib.hid hts
    have HL := Lib.hid hl
    clear hr hkw hts hl
    by_cases hkl : k < 256
    · have d1 : decide ((k : Int) < 256) = true := decide_eq_true (by omega)
      have d2 : decide (k < 256) = true := decide_eq_true hkl
      go_wp2_with (at_builtin; refine stopHere ?_)
      unfold Hid
      have hql : (anyRow ts).length = k := by rw [List.length_map]; exact HL.out
      refine wp_append_rule rfl (.tmp 41) (.tmp 44) rfl w5.heap.size (.slice A6 k c6) (anyRow ts) (.slice none 0 0) (Pure.anyRule (k : Int)) rfl rfl rfl (by have h := HR.out.own; rw [HL.out] at h; rw [hql]; exact h) (by omega) HR.out.size ?_
      intro A6 c6 w6 hown6 hk6 _
      rw [hql] at hown6 ⊢
      have HR6 := Lib.hid (HR.out.more HL.out.symm hown6 hk6)
      have HK6 := Lib.hid (HR.out.quiet HKW.out hk6)
      clear hown6 hk6 hql
      go_wp2_with fail
      go_roundw
      case rel => exact ⟨k + 1, Nat.succ_le_of_lt hkl, rfl, by rw [upto_snoc, ← HTS.out]; exact HR6.out, HK6.out⟩
      case measure => exact measure_up14 hkl
    · have hkk : k = 256 := by omega
      subst hkk
      have HR6 := Lib.hid HR.out
      have HK6 := Lib.hid (HK5.out.trans HKW.out)
      clear hkl hk HR HKW
      go_wp2_with fail
      obtain ⟨wl, rfl⟩ : ∃ q, q = wr := ⟨wr, rfl⟩
      go_loopw [6, 8] (fun v i wr2 => ∃ k : Nat, k ≤ ly ∧ i = .int .i64 (k : Int) ∧ RAny wl wr2 v (typesOf (bs.take k)) ∧ Keeps nobody wl wr2) (fun _ i _ => ly - (intOf i).toNat)
      case atStart => exact ⟨0, Nat.zero_le _, rfl, RAny.nil _, Keeps.refl _ _⟩
      case round =>
        obtain ⟨k, hk, rfl, hr, hkw⟩ := hrel
        obtain ⟨A7, c7, hv⟩ := hr.form
        obtain ⟨us, hus⟩ : ∃ us, us = typesOf (bs.take k) := ⟨_, rfl⟩
        have hul : us.length = k := by rw [hus, List.length_map, List.length_take]; have := HLY.out; omega
        rw [← hus, hul] at hv
        rw [← hus] at hr
        subst hv
        have HR := Lib.hid hr
        have HKW := Lib.hid hkw
        have HUS := Lib.hid hus
        have HUL := Lib.hid hul
        clear hr hkw hus hul
        by_cases hkl : k < ly
        · obtain ⟨bY, oY, rfl, _, hcell⟩ := ((show Row w (fun b => b < w.heap.size) 1 (.slice Y bs.length cy) bs.length (u8s bs) by have h := HY.out; rw [HLY.out] at h; exact h).keeps (HK6.out.trans HKW.out) (fun _ _ h => h)).cellAt (by have := HLY.out; omega)
          have cY := hcell k _ (u8s_at bs k (by have := HLY.out; omega))
          obtain ⟨yy, hyy⟩ : ∃ q, q = (bs.getD k 0).toNat := ⟨_, rfl⟩
          have hyl : yy < 256 := by rw [hyy]; exact (bs.getD k 0).toNat_lt
          rw [← hyy] at cY
          have HSN := Lib.hid (show typesOf (bs.take (k + 1)) = us ++ [(yy : Int)] by rw [types_snoc bs k (by have := HLY.out; omega), hyy, HUS.out])
          have d1 : decide ((k : Int) < (ly : Int)) = true := decide_eq_true (by omega)
          have d2 : decide (k < ly) = true := decide_eq_true hkl
          have k0 : (0 : Int) ≤ (k : Int) := by omega
          have k1 : (k : Int) < (ly : Int) := by omega
          have HK40 := Lib.hid (show k < 40 by have := H40.out; omega)
          clear hcell hyy
          go_wp2_with (at_builtin; refine stopHere ?_)
          unfold Hid
          have hql : (anyRow us).length = k := by rw [List.length_map]; exact HUL.out
          refine wp_append_rule rfl (.tmp 52) (.tmp 59) rfl wl.heap.size (.slice A7 k c7) (anyRow us) (.slice none 0 0) (Pure.anyRule (yy : Int)) rfl rfl rfl (by have h := HR.out.own; rw [HUL.out] at h; rw [hql]; exact h) (by have := HK40.out; omega) HR.out.size ?_
          intro A7 c7 w7 hown7 hk7 _
          rw [hql] at hown7 ⊢
          have HR7 := Lib.hid (HR.out.more HUL.out.symm hown7 hk7)
          have HK7 := Lib.hid (HR.out.quiet HKW.out hk7)
          clear hown7 hk7 hql
          have hkb : k < 40 := HK40.out
          go_wp2_with fail
          go_roundw
          case rel => exact ⟨_, _, _, _, _, _, _, _, _, _, _, _, _, _, _, _, _, ⟨k + 1, Nat.succ_le_of_lt hkl, rfl, by rw [HSN.out]; exact HR7.out, HK7.out⟩, rfl⟩
          case measure => exact measure_up14 hkl
        · have hkk : k = ly := by omega
          subst hkk
          have HR7 := Lib.hid HR.out
          have HK7 := Lib.hid (HK6.out.trans HKW.out)
          have hts : us = typesOf bs := by rw [HUS.out]; exact congrArg typesOf (List.take_of_length_le (by have := HLY.out; omega))
          have HTY := Lib.hid hts
          have hnx := new_any13 _ _ _ (.slice X zs.length cx) ts zs 10 50 wr (by exact (HR6.out.keeps HKW.out).row) (by rw [HL.out]; decide) (HX.out.keeps HK7.out (fun _ _ h => h)) (fun b hb => Nat.lt_of_lt_of_le hb HK7.out.size) (by decide)
          rw [HTS.out, ← all_upto, ← HLX.out] at hnx
          have HNX := Lib.hid (show Calls Tryz.prog 13 #[.slice A6 256 c6, .slice X lx cx, .int .i64 10, .int .i64 50] wr _ from hnx)
          clear hnx hkl hk hts HKW HR
          go_wp2_with fail
          refine HNX.out.mono ?_
          intro e w7 hor
          have hk7 : Keeps nobody wr w7 := by rcases hor with ⟨_, _, _, _, _, _, _, _, _, h⟩ | ⟨_, h⟩ <;> exact h
          have hrow7 := (HR7.out.keeps hk7).row
          have hny := new_none _ _ (anyRow us) w7 hrow7 (any_few (by rw [HUL.out]; have := H40.out; omega)) 10 50 (by decide)
          rw [anyRow_of] at hny
          have HNY := Lib.hid (show Calls Tryz.prog 13 #[.slice A7 k c7, .slice none 0 0, .int .i64 10, .int .i64 50] w7 _ from hny)
          have HK8 := Lib.hid hk7
          clear hny hk7 hrow7 HNX
          rcases hor with ⟨gx, fx, Rx, hfx, rfl, hnx, x1, x2, x3, _⟩ | ⟨rfl, _⟩
          case inr =>
            go_wp2_with fail
            refine HNY.out.mono ?_
            rintro e w8 ⟨gy, fy, Ry, rfl, _, _, _, _, hk8⟩
            have HK9 := Lib.hid ((HK7.out.trans HK8.out).trans hk8)
            clear hk8
            go_wp2_with fail
            go_ret
            exact ⟨rfl, HK9.out.to_below⟩
          have HFX := Lib.hid hfx
          have HNXO := Lib.hid (And.intro hnx (And.intro x1 (And.intro x2 x3)))
          clear hfx hnx x1 x2 x3
          go_wp2_with fail
          refine HNY.out.mono ?_
          rintro e w8 ⟨gy, fy, Ry, rfl, hny, y1, y2, y3, hk8⟩
          have hTN := two_new HENV.out HK7.out.to_below HK8.out HNXO.out.1 HNXO.out.2.1 HNXO.out.2.2.1 HNXO.out.2.2.2 (Keeps.refl _ w7) hk8 hny y1 y2 y3 (Keeps.refl _ w8)
          have hT0 := talk_any hTN (most := 60) (by omega) (newNeg_tame _ _ 10 50 all_short) (newNeg_tame _ _ 10 50 (by rw [List.length_map, HUL.out]; have := H40.out; omega)) (Pure.newMach_good (by decide) (by decide)) (Pure.newMach_good (by decide) (by decide))
          obtain ⟨XX, YY, hT, sX, sY, mX, mY⟩ := Pure.leaves (optsOf zs) us HFX.out H4.out
          rw [hT] at hT0
          obtain ⟨mx, hmx⟩ : ∃ q, q = fx.gm := ⟨_, rfl⟩
          obtain ⟨my, hmy⟩ : ∃ q, q = fy.gm := ⟨_, rfl⟩
          rw [← hmx, ← hmy] at hT0
          have HTK := Lib.hid (show Calls Tryz.prog 25 #[.pointer (some ⟨gx, 0, none⟩), .pointer (some ⟨gy, 0, none⟩), .int .i64 60] w8 fun e w' => e = .returned (.tuple #[]) ∧ ∃ g mb V0 V1 l0 l1, NPair w w' g mb 0 V0 V1 l0 l1 gx mx gy my XX YY from hT0)
          have HS := Lib.hid (And.intro sX (And.intro sY (And.intro mX mY)))
          clear hT0 hTN hT sX sY mX mY hmx hmy hk8 hny y1 y2 y3 HNY HNXO HFX HK7 HK8 HR6 HR7 HK6 H4 HK1 HK2 HK5 HTS HL HENV HUS
          go_wp2_with fail
          refine HTK.out.mono ?_
          rintro e w9 ⟨rfl, g, mb, V0, V1, l0, l1, hP⟩
          have HP := Lib.hid hP
          have hk9 := Keeps.new hP.below
          have HX9 := Lib.hid (show ORow w9 (fun b => b < w.heap.size) (.slice X lx cx) zs from by have h := HX.out.keeps hk9 (fun _ _ h => h); rw [← HLX.out] at h; exact h)
          have HY9 := Lib.hid (HY.out.keeps hk9 (fun _ _ h => h))
          clear hP hk9 HTK HX HY
          obtain ⟨ly, rfl⟩ : ∃ q, q = k := ⟨k, rfl⟩
          have HF := Lib.hid (show smallOpts (optsOf zs) ∧ 20 ≥ lx from ⟨H2.out, Nat.le_of_not_lt H20.out⟩)
          go_wp2_with fail
          go_loopw [13, 14] (fun v i wr2 => ∃ k : Nat, k ≤ lx ∧ i = .int .i64 (k : Int) ∧ ∃ qs, optsOf qs = ((optsOf zs).take k).filter (Pure.knows us) ∧ Picked w9 wr2 v qs) (fun _ i _ => lx - (intOf i).toNat)
          case atStart => exact ⟨0, Nat.zero_le _, rfl, [], rfl, Picked.nil _⟩
          case round =>
            obtain ⟨wm, rfl⟩ : ∃ q, q = wr := ⟨wr, rfl⟩
            obtain ⟨k, hk, rfl, qs, hqs, hpk⟩ := hrel
            obtain ⟨A8, c8, hv⟩ := hpk.form
            subst hv
            have HQS := Lib.hid hqs
            have HPK := Lib.hid hpk
            have hxm := HX9.out.keeps hpk.kept (fun _ _ h => h)
            have HXM := Lib.hid hxm
            have HYM := Lib.hid (HY9.out.keeps hpk.kept (fun _ _ h => h))
            have hql : qs.length ≤ 20 := by
              have h1 := congrArg List.length hqs
              have h2 := List.length_filter_le (Pure.knows us) ((optsOf zs).take k)
              rw [List.length_take] at h2
              simp only [List.length_map] at h1
              have := HF.out.2
              omega
            have HQL := Lib.hid hql
            clear hqs hpk hql
            obtain ⟨nq8, hnq8⟩ : ∃ q, q = qs.length := ⟨_, rfl⟩
            have HNQ := Lib.hid hnq8
            rw [← hnq8]
            clear hnq8
            by_cases hkl : k < lx
            · obtain ⟨bx, ox, A1, c1, t, D, hXe, hFb, x0, x1, hra, hpa⟩ := hxm.pick k (by rw [← HLX.out]; exact hkl)
              subst hXe
              have HRA := Lib.hid hra
              have HPA := Lib.hid (show (optsOf zs)[k]? = some (t, D) by rw [List.getElem?_map, hpa]; rfl)
              have d1 : decide ((k : Int) < (lx : Int)) = true := decide_eq_true (by omega)
              have d2 : decide (k < lx) = true := decide_eq_true hkl
              have i0 : (0 : Int) ≤ (k : Int) := by omega
              have i1 : (k : Int) < (lx : Int) := by omega
              clear hra hpa hxm
              go_wp2_with fail
              go_loopw [15, 16] (fun v i wr2 => ∃ j : Nat, j ≤ ly ∧ i = .int .i64 (j : Int) ∧ v = .bool (decide (t ∈ typesOf (bs.take j))) ∧ Keeps nobody wm wr2) (fun _ i _ => ly - (intOf i).toNat)
              case atStart => exact ⟨0, Nat.zero_le _, rfl, rfl, Keeps.refl _ _⟩
              case round =>
                obtain ⟨j, hj, rfl, rfl, hkj⟩ := hrel
                obtain ⟨B, hB⟩ : ∃ B, B = decide (t ∈ typesOf (bs.take j)) := ⟨_, rfl⟩
                rw [← hB]
                have HBJ := Lib.hid hB
                have HKJ := Lib.hid hkj
                clear hB hkj
                have x0 := cell_quiet x0 HKJ.out
                have x1 := cell_quiet x1 HKJ.out
                by_cases hjl : j < ly
                · obtain ⟨bY, oY, rfl, _, hcell⟩ := ((show Row wm (fun b => b < w.heap.size) 1 (.slice Y bs.length cy) bs.length (u8s bs) by have h := HYM.out; rw [HLY.out] at h; exact h).keeps HKJ.out (fun _ _ h => h)).cellAt (by have := HLY.out; omega)
                  have cY := hcell j _ (u8s_at bs j (by have := HLY.out; omega))
                  obtain ⟨yy, hyy⟩ : ∃ q, q = (bs.getD j 0).toNat := ⟨_, rfl⟩
                  have hyl : yy < 256 := by rw [hyy]; exact (bs.getD j 0).toNat_lt
                  rw [← hyy] at cY
                  have HSN := Lib.hid (show decide (t ∈ typesOf (bs.take (j + 1))) = (B || decide (t = (yy : Int))) by rw [types_known bs j t (by have := HLY.out; omega), hyy, HBJ.out])
                  have e1 : decide ((j : Int) < (ly : Int)) = true := decide_eq_true (by omega)
                  have e2 : decide (j < ly) = true := decide_eq_true hjl
                  have k0 : (0 : Int) ≤ (j : Int) := by omega
                  have k1 : (j : Int) < (ly : Int) := by omega
                  have hj40 : j < 40 := by have := H40.out; omega
                  clear hcell hyy
                  cases B
                  · by_cases hty : t = (yy : Int)
                    · have dq : (t == (yy : Int)) = true := by rw [beq_iff_eq]; exact hty
                      have HSM := Lib.hid (show true = decide (t ∈ typesOf (bs.take (j + 1))) by rw [HSN.out, decide_eq_true hty]; rfl)
                      clear hty
                      go_wp2_with fail
                      go_quiet (fail)
                      have HKN := Lib.hid (HKJ.out.trans (Keeps.of_drewN (n := nq) rfl))
                      generalize wr.drewN nq = wn at HKN ⊢
                      go_wp2_with fail
                      go_roundw
                      case rel => exact ⟨j + 1, Nat.succ_le_of_lt hjl, rfl, by rw [HSM.out], HKN.out⟩
                      case measure => exact measure_up14 hjl
                    · have dq : (t == (yy : Int)) = false := by rw [beq_eq_false_iff_ne]; exact hty
                      have HSM := Lib.hid (show false = decide (t ∈ typesOf (bs.take (j + 1))) by rw [HSN.out, decide_eq_false hty]; rfl)
                      clear hty
                      go_wp2_with fail
                      go_quiet (fail)
                      have HKN := Lib.hid (HKJ.out.trans (Keeps.of_drewN (n := nq) rfl))
                      generalize wr.drewN nq = wn at HKN ⊢
                      go_wp2_with fail
                      go_roundw
                      case rel => exact ⟨j + 1, Nat.succ_le_of_lt hjl, rfl, by rw [HSM.out], HKN.out⟩
                      case measure => exact measure_up14 hjl
                  · have HSM := Lib.hid (show true = decide (t ∈ typesOf (bs.take (j + 1))) by rw [HSN.out]; rfl)
                    go_wp2_with fail
                    go_quiet (fail)
                    have HKN := Lib.hid (HKJ.out.trans (Keeps.of_drewN (n := nq) rfl))
                    generalize wr.drewN nq = wn at HKN ⊢
                    go_wp2_with fail
                    go_roundw
                    case rel => exact ⟨j + 1, Nat.succ_le_of_lt hjl, rfl, by rw [HSM.out], HKN.out⟩
                    case measure => exact measure_up14 hjl
                · have hjj : j = ly := by omega
                  subst hjj
                  have e1 : decide ((j : Int) < (j : Int)) = false := decide_eq_false (by omega)
                  have e2 : decide (j < j) = false := decide_eq_false (by omega)
                  have HPR := Lib.hid (HPK.out.keeps HKJ.out)
                  have HKN := Lib.hid (show B = Pure.knows us (t, D) by
                    have h : bs.take j = bs := List.take_of_length_le (by have := HLY.out; omega)
                    rw [HBJ.out, h]
                    show _ = decide (t ∈ us)
                    rw [HTY.out])
                  have HSNF := Lib.hid (filter_snoc (Pure.knows us) (optsOf zs) k (t, D) HPA.out)
                  have HRB := Lib.hid (HRA.out.keeps HKJ.out (fun _ _ h => h))
                  have hk20 : k < 20 := by have := HF.out.2; omega
                  clear hjl hj HKJ HBJ
                  cases B
                  · go_wp2_with fail
                    go_roundw
                    case rel => exact ⟨k + 1, Nat.succ_le_of_lt hkl, rfl, qs, by rw [HSNF.out, ← HKN.out, HQS.out]; simp, by have h := HPR.out; rw [← HNQ.out] at h; exact h⟩
                    case measure => exact measure_up14 hkl
                  · go_wp2_with (at_builtin; refine stopHere ?_)
                    unfold Hid
                    refine wp_append_picked rfl (.tmp 106) (.tmp 111) rfl (.slice A8 nq8 c8) qs A1 c1 t D rfl rfl (w0 := w9) (by have h := HPR.out; rw [← HNQ.out] at h; exact h) (by have := HQL.out; omega) (HRB.out.mono (fun b hb => Nat.lt_of_lt_of_le hb HP.out.below.size)) ?_
                    intro A9 c9 w10 hpk
                    rw [← HNQ.out]
                    have HPN := Lib.hid hpk
                    clear hpk
                    go_wp2_with fail
                    go_roundw
                    case rel => exact ⟨k + 1, Nat.succ_le_of_lt hkl, rfl, _, picked_snoc HSNF.out HKN.out.symm HQS.out, by have h := HPN.out; rw [← HNQ.out] at h; exact h⟩
                    case measure => exact measure_up14 hkl
            · have hkk : k = lx := by omega
              subst hkk
              have HALL := Lib.hid (show optsOf qs = (optsOf zs).filter (Pure.knows us) by rw [HQS.out, List.take_of_length_le (by simp only [List.length_map]; have := HLX.out; omega)])
              have hpw := HP.out.quiet HPK.out.kept
              have HPW := Lib.hid hpw
              have hs1 := hpw.state
              have hs2 := hpw.swap.state
              rw [HS.out.1] at hs1
              rw [HS.out.2.1] at hs2
              have HS1 := Lib.hid (show Calls Tryz.prog 16 #[.pointer (some ⟨gx, 0, none⟩)] wm fun e w' => e = .returned (.int .i64 9) ∧ wm = w' from hs1)
              have HS2 := Lib.hid (show Calls Tryz.prog 16 #[.pointer (some ⟨gy, 0, none⟩)] wm fun e w' => e = .returned (.int .i64 9) ∧ wm = w' from hs2)
              obtain ⟨W, hW⟩ : ∃ W, W = (optsOf zs).filter (Pure.knows us) := ⟨_, rfl⟩
              have HM0 := Lib.hid (show Calls Tryz.prog 18 #[.pointer (some ⟨gx, 0, none⟩)] wm fun e w' => Given wm w' e W from by
                have h := hpw.mines
                rw [HS.out.2.2.1, ← hW] at h
                exact h)
              have HG0 := Lib.hid (fun (V : World) (kk : Keeps nobody wm V) => (show Calls Tryz.prog 19 #[.pointer (some ⟨gy, 0, none⟩)] V fun e w' => Given V w' e W from by
                have h := (hpw.quiet kk).swap.givens
                rw [HS.out.2.2.2, ← hW] at h
                exact h))
              have HALLW := Lib.hid (HALL.out.trans hW.symm)
              clear hpw hs1 hs2 hW hkl hxm HALL HQS
              go_wp2_with fail
              refine HS1.out.mono ?_
              rintro e w' ⟨rfl, rfl⟩
              go_wp2_with fail
              refine HS2.out.mono ?_
              rintro e w' ⟨rfl, rfl⟩
              clear HS1 HS2
              go_wp2_with fail
              refine HM0.out.mono ?_
              rintro e wm0 ⟨u, q2, rfl, hq2, _, hrow, hkm⟩
              obtain ⟨AM, cM, rfl, _⟩ := hrow.form
              have HKV := Lib.hid hkm
              have hsm := docopts_same _ _ _ (.slice A8 qs.length c8) q2 qs wm0 hrow (by have h := (HPK.out.keeps hkm).row; rw [← HNQ.out] at h ⊢; exact h)
              rw [hq2, HALLW.out, decide_eq_true rfl, ← HNQ.out] at hsm
              obtain ⟨nm, hnm⟩ : ∃ q, q = q2.length := ⟨_, rfl⟩
              rw [← hnm] at hsm ⊢
              have HSM := Lib.hid hsm
              clear hq2 hrow hkm hsm hnm HM0
              go_wp2_with fail
              refine HSM.out.mono ?_
              rintro e ws0 ⟨rfl, hks⟩
              have HKV := Lib.hid (HKV.out.trans hks)
              have HG1 := Lib.hid (HG0.out ws0 HKV.out)
              clear hks HSM
              go_wp2_with fail
              refine HG1.out.mono ?_
              rintro e wm1 ⟨u, q3, rfl, hq3, _, hrow, hkm⟩
              obtain ⟨AN, cN, rfl, _⟩ := hrow.form
              have HKV := Lib.hid (HKV.out.trans hkm)
              have hsm := docopts_same _ _ _ (.slice A8 qs.length c8) q3 qs wm1 hrow (by have h := (HPK.out.keeps HKV.out).row; rw [← HNQ.out] at h ⊢; exact h)
              rw [hq3, HALLW.out, decide_eq_true rfl, ← HNQ.out] at hsm
              obtain ⟨nm2, hnm2⟩ : ∃ q, q = q3.length := ⟨_, rfl⟩
              rw [← hnm2] at hsm ⊢
              have HSM := Lib.hid hsm
              clear hq3 hrow hkm hsm hnm2 HG1 HG0
              go_wp2_with fail
              refine HSM.out.mono ?_
              rintro e ws1 ⟨rfl, hks⟩
              have HBL := Lib.hid (Below.quiet HPW.out.below (HKV.out.trans hks) HPW.out.below.size)
              clear hks HSM
              go_wp2_with fail
              go_ret
              exact ⟨rfl, HBL.out⟩
theorem negoLeaves_walk (a0 : Option Addr) (len0 cap0 : Nat) (a1 : Option Addr) (len1 cap1 : Nat) (z1 : List Int) (w : World) (hg : Env13 w) (w0 : IsStructs w [.int .i64, .row .u8] a0 len0 cap0) (w1 : IsRow .u8 w a1 len1 cap1 z1) :
    Calls Tryz.prog 6 #[.slice a0 len0 cap0, .slice a1 len1 cap1] w fun e w' => e = .returned (.bool true) ∧ Below w.heap.size w w' := by
  obtain ⟨zs, _, hz, _⟩ := opts_of w0
  obtain ⟨l, hl, hr⟩ := w1.bytes
  subst hl
  exact negoLeaves_walk' _ _ zs l w hg hz hr
end Go.Proofs.YtjomcffhbaplcaaGreatDoor
