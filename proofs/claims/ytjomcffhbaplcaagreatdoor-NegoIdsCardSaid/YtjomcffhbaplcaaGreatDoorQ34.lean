/- Package nego: split, within, rejection. -/
import Derived.Test.YtjomcffhbaplcaaGreatDoorQ31
import Derived.Test.YtjomcffhbaplcaaGreatDoorQ33
import Derived.Test.YtjomcffhbaplcaaGreatDoorQ4
import Derived.Test.YtjomcffhbaplcaaGreatDoorQ9
namespace Go.Proofs.YtjomcffhbaplcaaGreatDoor
open Go.RowKit
/-- An error that says that a packet is dropped. -/
def ErrDrop (w : World) (v : Value) : Prop := ∃ b : Nat, ∃ k : Int, v = .iface 106 (.pointer (some ⟨b, 0, none⟩)) ∧ w.cell? ⟨b, 0, none⟩ = some (.int .i64 k)
/-- An error where it is bad, else these options. -/
def AccTo (w : World) (e : Ending) (w' : World) (bad : Prop) (l : List Pure.Opt) : Prop :=
  (bad ∧ ∃ v, e = .returned (.tuple #[.slice none 0 0, v]) ∧ ErrDrop w' v ∧ Keeps nobody w w') ∨
  (¬ bad ∧ ∃ u, ∃ zs : List (Value × Pure.Opt), e = .returned (.tuple #[u, .nilIface]) ∧ optsOf zs = l ∧ ORow w' (fun b => w.heap.size ≤ b ∧ b < w'.heap.size) u zs ∧ Keeps nobody w w')
theorem AccTo.none (w w' : World) (bad : Prop) (h : ¬ bad) (k : Keeps nobody w w') : AccTo w (.returned (.tuple #[.slice Option.none 0 0, .nilIface])) w' bad [] :=
  .inr ⟨h, _, [], rfl, rfl, ORow.nil _ _, k⟩
theorem AccTo.since {w0 w w' : World} {e : Ending} {bad bad' : Prop} {l : List Pure.Opt} (h : AccTo w e w' bad l) (k : Keeps nobody w0 w) (hb : bad ↔ bad') : AccTo w0 e w' bad' l := by
  rcases h with ⟨h1, v, h2, h3, h4⟩ | ⟨h1, u, zs, h2, h3, h4, h5⟩
  · exact .inl ⟨hb.1 h1, v, h2, h3, k.trans h4⟩
  · exact .inr ⟨fun x => h1 (hb.2 x), u, zs, h2, h3, h4.mono (fun b hb => ⟨Nat.le_trans k.size hb.1, hb.2⟩), k.trans h5⟩
theorem AccTo.keeps {w w' : World} {e : Ending} {bad : Prop} {l : List Pure.Opt} (h : AccTo w e w' bad l) : Keeps nobody w w' := by
  rcases h with ⟨_, v, _, _, h⟩ | ⟨_, u, zs, _, _, _, h⟩ <;> exact h
theorem AccTo.returned {w w' : World} {e : Ending} {bad : Prop} {l : List Pure.Opt} (h : AccTo w e w' bad l) : ∃ a b, e = .returned (.tuple #[a, b]) := by
  rcases h with ⟨_, v, h2, _⟩ | ⟨_, u, zs, h2, _⟩
  · exact ⟨_, _, h2⟩
  · exact ⟨_, _, h2⟩
theorem nsplit_any (F : Nat → Prop) (x : Value) (bs : List UInt8) (w : World) (hg : Handle w) (hF : ∀ b, F b → b < w.heap.size) (hr : Row w F 1 x bs.length (u8s bs)) :
    Calls Tryz.prog 62 #[x] w fun e w' => AccTo w e w' ((Pure.split bs).1 ≠ 0) (Pure.split bs).2 := by
  obtain ⟨A, cA, rfl, _⟩ := hr.form
  have HS := Lib.hid (split_any F _ bs w hg hF hr)
  clear hr hF hg
  by_cases hk : (Pure.split bs).1 = 0
  · have HK0 := Lib.hid hk
    have HS := Lib.hid (show Calls Tryz.prog 79 #[.slice A bs.length cA] w fun e w' => ∃ u ps, e = .returned (.tuple #[u, .int .i64 0]) ∧ optsOf ps = (Pure.split bs).2 ∧ ORow w' (fun b => w.heap.size ≤ b) u ps ∧ Below w.heap.size w w' by
      have h := HS.out
      rw [hk] at h
      exact h)
    clear hk
    go_enter Tryz.func62, Tryz.ntmps62
    go_wp2_with fail
    refine HS.out.mono ?_
    rintro e w1 ⟨u, ps, rfl, hps, hu, hb⟩
    obtain ⟨A3, c3, rfl, _⟩ := hu.form
    have HU := Lib.hid hu.strong
    have HPS := Lib.hid hps
    have HKW := Lib.hid (Keeps.new hb)
    clear hps hu hb HS
    go_wp2_with fail
    go_ret2
    exact .inr ⟨fun h => h HK0.out, _, ps, rfl, HPS.out, HU.out, HKW.out⟩
  · have HK0 := Lib.hid hk
    obtain ⟨k, hkk⟩ : ∃ k, k = (Pure.split bs).1 := ⟨_, rfl⟩
    rw [← hkk] at HS hk
    have q : (((k : Nat) : Int) == 0) = false := by rw [beq_eq_false_iff_ne]; omega
    clear hkk hk
    go_enter Tryz.func62, Tryz.ntmps62
    go_wp2_with fail
    refine HS.out.mono ?_
    rintro e w1 ⟨u, ps, rfl, hps, hu, hb⟩
    obtain ⟨A3, c3, rfl, _⟩ := hu.form
    have HKW := Lib.hid (show Keeps nobody w (w1.alloc (.cells #[.int .i64 (k : Int)] 108)) from (Keeps.new hb).alloc _)
    have HC := Lib.hid (box_cell w1 (.int .i64 (k : Int)) 108)
    clear hps hu hb HS
    go_wp2_with fail
    go_ret2
    exact .inl ⟨HK0.out, _, rfl, ⟨_, _, rfl, HC.out⟩, HKW.out⟩
theorem amid_step (others l : List Pure.Opt) (k : Nat) (o : Pure.Opt) (h : l[k]? = some o) : Pure.amid (l.take (k + 1)) others = (Pure.amid (l.take k) others && others.any fun q => decide (o = q)) := by
  unfold Pure.amid
  rw [Pure.take_snoc l k o h, List.all_append]
  simp
theorem amid_not (others l : List Pure.Opt) (k : Nat) (o : Pure.Opt) (h : l[k]? = some o) (hn : (others.any fun q => decide (o = q)) = false) : Pure.amid l others = false := by
  unfold Pure.amid
  rw [List.all_eq_false]
  exact ⟨o, List.mem_of_getElem? h, by rw [hn]; simp⟩
set_option maxRecDepth 100000 in
set_option maxHeartbeats 4000000 in
theorem within_any (F G : Nat → Prop) (x y : Value) (ps qs : List (Value × Pure.Opt)) (w : World) (hx : ORow w F x ps) (hy : ORow w G y qs) :
    Calls Tryz.prog 81 #[x, y] w fun e w' => e = .returned (.bool (Pure.amid (optsOf ps) (optsOf qs))) ∧ Keeps nobody w w' := by
  obtain ⟨X, cx, rfl, _⟩ := hx.form
  obtain ⟨Y, cy, rfl, _⟩ := hy.form
  have hm := hx.out.2.1
  unfold maxLen at hm
  have HX := Lib.hid hx
  have HY := Lib.hid hy
  clear hx hy
  go_enter Tryz.func81, Tryz.ntmps81
  go_wp2_with fail
  go_loopw [9] (fun i wr => ∃ k : Nat, k ≤ ps.length ∧ i = .int .i64 (k : Int) ∧ Pure.amid ((optsOf ps).take k) (optsOf qs) = true ∧ Keeps nobody w wr) (fun i _ => ps.length - (intOf i).toNat)
  case atStart => exact ⟨0, by omega, rfl, rfl, Keeps.refl _ _⟩
  case round =>
    obtain ⟨k, hk, rfl, hT, hK⟩ := hrel
    have HT := Lib.hid hT
    have HK := Lib.hid hK
    by_cases hkl : k < ps.length
    · have i0 : (0 : Int) ≤ (k : Int) := by omega
      have i1 : (k : Int) < (ps.length : Int) := by omega
      have d1 : decide ((k : Int) < (ps.length : Int)) = true := decide_eq_true (by omega)
      have d2 : decide (k < ps.length) = true := decide_eq_true hkl
      obtain ⟨bx, ox, A1, c1, t, D, rfl, hFb, x0, x1, hra, hpa⟩ := (HX.out.keeps hK (fun _ _ h => h)).pick k hkl
      have hok : (optsOf ps)[k]? = some (t, D) := by rw [List.getElem?_map, hpa]; rfl
      have HOK := Lib.hid hok
      have hkb : Keeps nobody wr (wr.alloc (.cells #[.int .i64 t, .slice A1 D.length c1] 54)) := (Keeps.refl _ wr).alloc _
      have HKb := Lib.hid (hK.trans hkb)
      have HHA := Lib.hid (has_any G F (.slice Y qs.length cy) qs (.slice A1 D.length c1, (t, D)) _ (HY.out.keeps (hK.trans hkb) (fun _ _ h => h)) (hra.keeps hkb (fun _ _ h => h)))
      obtain ⟨r, hr⟩ : ∃ r, r = (optsOf qs).any fun z => decide ((t, D) = z) := ⟨_, rfl⟩
      have HHA := Lib.hid (show Calls Tryz.prog 105 #[.slice Y qs.length cy, optV (.slice A1 D.length c1, (t, D))] (wr.alloc (.cells #[.int .i64 t, .slice A1 D.length c1] 54)) fun e w' => e = .returned (.bool r) ∧ Keeps nobody (wr.alloc (.cells #[.int .i64 t, .slice A1 D.length c1] 54)) w' from by rw [hr]; exact HHA.out)
      have HR := Lib.hid hr
      clear hT hK hra hpa hok hr hkb
      go_wp2_with fail
      refine HHA.out.mono ?_
      rintro e w1 ⟨rfl, hk1⟩
      have HK1 := Lib.hid (HKb.out.trans hk1)
      clear HHA hk1 x0 x1
      cases r
      · go_wp2_with fail
        go_ret
        exact ⟨by rw [amid_not (optsOf qs) (optsOf ps) k (t, D) HOK.out HR.out.symm]; rfl, HK1.out⟩
      · have HT2 := Lib.hid (show Pure.amid ((optsOf ps).take (k + 1)) (optsOf qs) = true by rw [amid_step _ _ k (t, D) HOK.out, HT.out, ← HR.out]; rfl)
        clear HT
        go_wp2_with fail
        go_roundw
        case rel => exact ⟨k + 1, by omega, by go_num, HT2.out, HK1.out⟩
        case measure => simp [intOf]; omega
    · have hkk : k = ps.length := by omega
      have HN := Lib.hid (show Pure.amid (optsOf ps) (optsOf qs) = true by
        have h := HT.out
        rwa [List.take_of_length_le (by simp; omega)] at h)
      subst hkk
      clear hkl hk hT HT hK
      go_wp2
      go_ret
      exact ⟨by rw [HN.out]; rfl, HK.out⟩
theorem rejection_any (b : UInt8) (w : World) : Calls Tryz.prog 67 #[.int .u8 (b.toNat : Nat)] w fun e w' => e = .returned (.int .i64 ((if 1 ≤ b.toNat ∧ b.toNat ≤ 7 then 14 else 13 : Nat) : Int)) ∧ w = w' := by
  have hb := b.toNat_lt
  obtain ⟨k, hk⟩ : ∃ k, k = b.toNat := ⟨_, rfl⟩
  rw [← hk] at hb ⊢
  clear hk
  by_cases h1 : 1 ≤ k
  · by_cases h7 : k ≤ 7
    · skip
      go_enter Tryz.func67, Tryz.ntmps67
      go_wp2
      go_ret
      exact ⟨rfl, rfl⟩
    · skip
      go_enter Tryz.func67, Tryz.ntmps67
      go_wp2
      go_ret
      exact ⟨rfl, rfl⟩
  · skip
    go_enter Tryz.func67, Tryz.ntmps67
    go_wp2
    go_ret
    exact ⟨rfl, rfl⟩
end Go.Proofs.YtjomcffhbaplcaaGreatDoor
/- Package packet: two options compared. -/
namespace Go.Proofs.YtjomcffhbaplcaaGreatDoor
open Go.RowKit
set_option maxRecDepth 100000 in
set_option maxHeartbeats 2000000 in
theorem one_any (F G : Nat → Prop) (v u : Value) (a b : Pure.Opt) (w : World) (hx : Row w F 1 v a.2.length (u8s a.2)) (hy : Row w G 1 u b.2.length (u8s b.2)) :
    Calls Tryz.prog 104 #[optV (v, a), optV (u, b)] w fun e w' => e = .returned (.bool (decide (a = b))) ∧ Keeps nobody w w' := by
  obtain ⟨A, cA, rfl, hc⟩ := hx.form
  obtain ⟨B, cB, rfl, hd⟩ := hy.form
  obtain ⟨s, la⟩ := a
  obtain ⟨t, lb⟩ := b
  dsimp only at *
  have HX := Lib.hid hx
  have HY := Lib.hid hy
  clear hx hy
  obtain ⟨g, hg⟩ : ∃ g, g = w.heap.size := ⟨_, rfl⟩
  go_enter Tryz.func104, Tryz.ntmps104
  go_upto_region 1 with fail
  obtain ⟨w1, hw1⟩ : ∃ w1, w1 = (w.alloc (.cells #[.int .i64 s, .slice A la.length cA] 54)).alloc (.cells #[.int .i64 t, .slice B lb.length cB] 54) := ⟨_, rfl⟩
  rw [← hw1, ← hg]
  have hb1 : Blk w1 g 54 #[.int .i64 s, .slice A la.length cA] := by rw [hw1, hg]; exact (Blk.new w _ _).alloc _
  have hb2 : Blk w1 (g + 1) 54 #[.int .i64 t, .slice B lb.length cB] := by
    rw [hw1, hg]
    have := Blk.new (w.alloc (.cells #[.int .i64 s, .slice A la.length cA] 54)) 54 #[.int .i64 t, .slice B lb.length cB]
    rw [World.size_alloc] at this
    exact this
  have hk : Keeps nobody w w1 := by rw [hw1]; exact ((Keeps.refl _ w).alloc _).alloc _
  have a0 : w1.cell? ⟨g, 0, none⟩ = some (.int .i64 s) := by rw [hb1.cell]; rfl
  have a1 : w1.cell? ⟨g, 1, none⟩ = some (.slice A la.length cA) := by rw [hb1.cell]; rfl
  have b0 : w1.cell? ⟨g + 1, 0, none⟩ = some (.int .i64 t) := by rw [hb2.cell]; rfl
  have b1 : w1.cell? ⟨g + 1, 1, none⟩ = some (.slice B lb.length cB) := by rw [hb2.cell]; rfl
  have HS := Lib.hid (bequal_any F G _ _ _ _ la lb w1 (HX.out.keeps hk (fun _ _ h => h)) (HY.out.keeps hk (fun _ _ h => h)))
  have HK := Lib.hid hk
  clear hw1 hb1 hb2 hk hg
  by_cases hst : s = t
  · have d0 : (s == t) = true := by rw [hst]; exact beq_self_eq_true t
    have hdec : decide ((s, la) = (t, lb)) = decide (la = lb) := by rw [hst]; simp
    have HD := Lib.hid hdec
    obtain ⟨r, hr⟩ : ∃ r, r = decide (la = lb) := ⟨_, rfl⟩
    rw [← hr] at HS HD
    clear hst hdec hr
    go_wp2_with fail
    refine HS.out.mono ?_
    rintro e w2 ⟨rfl, rfl⟩
    have HK2 := HK
    clear HS
    cases r
    · go_wp2
      go_ret
      exact ⟨by rw [HD.out]; rfl, HK2.out⟩
    · go_wp2
      go_ret
      exact ⟨by rw [HD.out]; rfl, HK2.out⟩
  · have d0 : (s == t) = false := by rw [beq_eq_false_iff_ne]; exact hst
    have HD := Lib.hid (show decide ((s, la) = (t, lb)) = false from decide_eq_false (fun e => hst (congrArg Prod.fst e)))
    clear hst HS
    go_wp2
    go_ret
    exact ⟨by rw [HD.out]; rfl, HK.out⟩
end Go.Proofs.YtjomcffhbaplcaaGreatDoor
/- Package slices' EqualFunc over options; package packet: Same. -/
namespace Go.Proofs.YtjomcffhbaplcaaGreatDoor
open Go.RowKit
set_option maxRecDepth 100000 in
set_option maxHeartbeats 4000000 in
theorem equalFunc_any (F G : Nat → Prop) (x y : Value) (ps qs : List (Value × Pure.Opt)) (w : World) (hx : ORow w F x ps) (hy : ORow w G y qs) :
    Calls Tryz.prog 103 #[x, y, .func (.func 104) #[] #[]] w fun e w' => e = .returned (.bool (decide (optsOf ps = optsOf qs))) ∧ Keeps nobody w w' := by
  obtain ⟨A, cA, rfl, hc⟩ := hx.form
  obtain ⟨B, cB, rfl, hd⟩ := hy.form
  have hm := hx.out.2.1
  have hm2 := hy.out.2.1
  unfold maxLen at hm hm2
  have HX := Lib.hid hx
  have HY := Lib.hid hy
  clear hx hy
  by_cases hl : ps.length = qs.length
  · have e1 : ((ps.length : Int) != (qs.length : Int)) = false := by rw [hl]; simp
    have HL := Lib.hid hl
    rw [← hl] at HY ⊢
    rw [← hl] at e1
    clear hl hm2
    go_enter Tryz.func103, Tryz.ntmps103
    go_wp2
    clear e1
    go_loopw [17] (fun i wr => ∃ k : Nat, k ≤ ps.length ∧ i = .int .i64 (k : Int) ∧ (optsOf ps).take k = (optsOf qs).take k ∧ Keeps nobody w wr) (fun i _ => ps.length - (intOf i).toNat)
    case atStart => exact ⟨0, by omega, rfl, by simp, Keeps.refl _ _⟩
    case round =>
      obtain ⟨k, hk, rfl, hT, hK⟩ := hrel
      have HT := Lib.hid hT
      have HK := Lib.hid hK
      by_cases hkl : k < ps.length
      · have i0 : (0 : Int) ≤ (k : Int) := by omega
        have i1 : (k : Int) < (ps.length : Int) := by omega
        have hkq : k < qs.length := by have := HL.out; omega
        obtain ⟨p, o, A1, c1, s, la, rfl, hFp, x0, x1, hra, hpa⟩ := (HX.out.keeps hK (fun _ _ h => h)).pick k hkl
        obtain ⟨q, o2, A2, c2, t, lb, rfl, hGq, y0, y1, hrb, hqb⟩ := (HY.out.keeps hK (fun _ _ h => h)).pick k hkq
        have HRA := Lib.hid hra
        have HRB := Lib.hid hrb
        have HPA := Lib.hid hpa
        have HQB := Lib.hid hqb
        clear hT hK hra hrb hpa hqb
        go_upto_region 6 with fail
        obtain ⟨r, hr⟩ : ∃ r, r = wr.heap.size := ⟨_, rfl⟩
        rw [← hr]
        generalize hw1 : wr.alloc _ = w1
        have hb1 : Blk w1 r 54 #[.int .i64 s, .slice A1 la.length c1] := by rw [← hw1, hr]; exact Blk.new wr _ _
        have hk1 : Keeps nobody wr w1 := by rw [← hw1]; exact (Keeps.refl _ wr).alloc _
        have y0' := opt_quiet y0 hk1
        have y1' := opt_quiet y1 hk1
        clear hw1 x0 x1 y0 y1 hr
        go_upto_region 7 with fail
        obtain ⟨r2, hr2⟩ : ∃ r, r = w1.heap.size := ⟨_, rfl⟩
        rw [← hr2]
        generalize hw2 : w1.alloc _ = w2
        have hb2 : Blk w2 r2 54 #[.int .i64 t, .slice A2 lb.length c2] := by rw [← hw2, hr2]; exact Blk.new w1 _ _
        have hk2 : Keeps nobody w1 w2 := by rw [← hw2]; exact (Keeps.refl _ w1).alloc _
        have hb1' := hb1.keeps hk2 (fun h => h)
        have hk12 := hk1.trans hk2
        have HO := Lib.hid (one_any F G (.slice A1 la.length c1) (.slice A2 lb.length c2) (s, la) (t, lb) w2 (HRA.out.keeps hk12 (fun _ _ h => h)) (HRB.out.keeps hk12 (fun _ _ h => h)))
        have HK2 := Lib.hid (HK.out.trans hk12)
        have x0 : w2.cell? ⟨r, 0, none⟩ = some (.int .i64 s) := by rw [hb1'.cell]; rfl
        have x1 : w2.cell? ⟨r, 1, none⟩ = some (.slice A1 la.length c1) := by rw [hb1'.cell]; rfl
        have z0 : w2.cell? ⟨r2, 0, none⟩ = some (.int .i64 t) := by rw [hb2.cell]; rfl
        have z1 : w2.cell? ⟨r2, 1, none⟩ = some (.slice A2 lb.length c2) := by rw [hb2.cell]; rfl
        obtain ⟨b, hb⟩ : ∃ b, b = decide ((s, la) = (t, lb)) := ⟨_, rfl⟩
        rw [← hb] at HO
        have HRr := Lib.hid hb
        clear hw2 hr2 hb1 hk1 hb2 hk2 hb1' hk12 y0' y1' HK hb
        go_wp2_with fail
        refine HO.out.mono ?_
        rintro e w3 ⟨rfl, hk3⟩
        have HK3 := Lib.hid (HK2.out.trans hk3)
        clear HO hk3 x0 x1 z0 z1 HK2
        have hps : (optsOf ps)[k]? = some (s, la) := by rw [List.getElem?_map, HPA.out]; rfl
        have hqs : (optsOf qs)[k]? = some (t, lb) := by rw [List.getElem?_map, HQB.out]; rfl
        cases b
        · have hno : decide (optsOf ps = optsOf qs) = false := by
            rw [decide_eq_false_iff_not]
            intro he
            rw [he, hqs] at hps
            injection hps with hps
            have := HRr.out
            rw [hps] at this
            simp at this
          have HNO := Lib.hid hno
          clear hno hps hqs
          go_wp2
          go_ret
          exact ⟨by rw [HNO.out]; rfl, HK3.out⟩
        · have hyes : (s, la) = (t, lb) := of_decide_eq_true HRr.out.symm
          have hTk : (optsOf ps).take (k + 1) = (optsOf qs).take (k + 1) := by
            rw [List.take_succ_eq_append_getElem (by simpa using hkl), List.take_succ_eq_append_getElem (by simpa using hkq), HT.out]
            congr 1
            have e1 : (optsOf ps)[k]'(by simpa using hkl) = (s, la) := by
              have := List.getElem?_eq_getElem (l := optsOf ps) (i := k) (by simpa using hkl)
              rw [hps] at this
              injection this with this
              exact this.symm
            have e2 : (optsOf qs)[k]'(by simpa using hkq) = (t, lb) := by
              have := List.getElem?_eq_getElem (l := optsOf qs) (i := k) (by simpa using hkq)
              rw [hqs] at this
              injection this with this
              exact this.symm
            rw [e1, e2, hyes]
          have HTk := Lib.hid hTk
          clear hyes hTk hps hqs HT
          go_wp2_with fail
          go_roundw
          case rel => exact ⟨k + 1, by omega, by go_num, HTk.out, HK3.out⟩
          case measure => simp [intOf]; omega
      · have hkk : k = ps.length := by omega
        have hyes : decide (optsOf ps = optsOf qs) = true := by
          rw [decide_eq_true_eq]
          have h := HT.out
          rw [List.take_of_length_le (by simp; omega), List.take_of_length_le (by simp; have := HL.out; omega)] at h
          exact h
        have HYES := Lib.hid hyes
        subst hkk
        clear hyes hT hK hkl hk HT
        go_wp2
        go_ret
        exact ⟨by rw [HYES.out]; rfl, HK.out⟩
  · have e1 : ((ps.length : Int) != (qs.length : Int)) = true := by rw [bne_iff_ne]; omega
    have hno : decide (optsOf ps = optsOf qs) = false := by
      rw [decide_eq_false_iff_not]
      intro he
      have := congrArg List.length he
      simp at this
      exact hl this
    have HNO := Lib.hid hno
    clear hno hl
    go_enter Tryz.func103, Tryz.ntmps103
    go_wp2
    go_ret
    exact ⟨by rw [HNO.out]; rfl, Keeps.refl _ _⟩
set_option maxHeartbeats 1000000 in
theorem same_opts (F G : Nat → Prop) (x y : Value) (ps qs : List (Value × Pure.Opt)) (w : World) (hx : ORow w F x ps) (hy : ORow w G y qs) :
    Calls Tryz.prog 80 #[x, y] w fun e w' => e = .returned (.bool (decide (optsOf ps = optsOf qs))) ∧ Keeps nobody w w' := by
  have HE := Lib.hid (equalFunc_any F G x y ps qs w hx hy)
  obtain ⟨A, cA, rfl, _⟩ := hx.form
  obtain ⟨B, cB, rfl, _⟩ := hy.form
  obtain ⟨r, hr⟩ : ∃ r, r = decide (optsOf ps = optsOf qs) := ⟨_, rfl⟩
  rw [← hr] at HE ⊢
  clear hx hy hr
  go_enter Tryz.func80, Tryz.ntmps80
  go_wp2_with fail
  refine HE.out.mono ?_
  rintro e w2 ⟨rfl, hk⟩
  have HK := Lib.hid hk
  clear hk HE
  go_wp2
  go_ret
  exact ⟨rfl, HK.out⟩
end Go.Proofs.YtjomcffhbaplcaaGreatDoor
/- Package nego: answered. -/
namespace Go.Proofs.YtjomcffhbaplcaaGreatDoor
open Go.RowKit
/-- Why an answer is none. -/
def NoAnswer (aid : Nat) (op : Bool) (L : List Pure.Opt) (p : Pure.Pkt) : Prop :=
  (op = false ∨ p.id ≠ (aid : Int)) ∨ (Pure.split p.data).1 ≠ 0 ∨ (p.code = 2 ∧ (Pure.split p.data).2 ≠ L) ∨ (p.code = 4 ∧ Pure.amid (Pure.split p.data).2 L = false)
set_option maxRecDepth 100000 in
set_option maxHeartbeats 4000000 in
theorem answered_any (F G : Nat → Prop) (aid : Nat) (ov d : Value) (qs : List (Value × Pure.Opt)) (op : Bool) (p : Pure.Pkt) (w : World) (hg : Handle w) (hF : ∀ b, F b → b < w.heap.size) (hd : Row w F 1 d p.data.length (u8s p.data)) (hq : ORow w G ov qs) :
    Calls Tryz.prog 63 #[.agg #[.int .i64 (aid : Int), ov, .bool op], pktV p d] w fun e w' => AccTo w e w' (NoAnswer aid op (optsOf qs) p) (Pure.split p.data).2 := by
  obtain ⟨pc, pi, pd⟩ := p
  dsimp only at hd ⊢
  obtain ⟨DA, dc, rfl, _⟩ := hd.form
  obtain ⟨OA, oc, rfl, _⟩ := hq.form
  obtain ⟨ra, hra⟩ : ∃ r, r = w.heap.size := ⟨_, rfl⟩
  go_enter Tryz.func63, Tryz.ntmps63
  go_upto_region 1 with fail
  rw [← hra]
  generalize hw1 : (w.alloc _).alloc _ = w1
  have hk1 : Keeps nobody w w1 := by rw [← hw1]; exact ((Keeps.refl _ w).alloc _).alloc _
  have hA : Blk w1 ra 75 #[.int .i64 (aid : Int), .slice OA qs.length oc, .bool op] := by rw [← hw1, hra]; exact (Blk.new w _ _).alloc _
  have hP : Blk w1 (ra + 1) 40 #[.int .i64 pc, .int .i64 pi, .slice DA pd.length dc] := by
    rw [← hw1, show ra + 1 = (w.alloc (.cells #[.int .i64 (aid : Int), .slice OA qs.length oc, .bool op] 75)).heap.size by rw [hra]; simp]
    exact Blk.new _ _ _
  have a0 : w1.cell? ⟨ra, 0, none⟩ = some (.int .i64 (aid : Int)) := by rw [hA.cell]; rfl
  have a1 : w1.cell? ⟨ra, 1, none⟩ = some (.slice OA qs.length oc) := by rw [hA.cell]; rfl
  have a2 : w1.cell? ⟨ra, 2, none⟩ = some (.bool op) := by rw [hA.cell]; rfl
  have p0 : w1.cell? ⟨ra + 1, 0, none⟩ = some (.int .i64 pc) := by rw [hP.cell]; rfl
  have p1 : w1.cell? ⟨ra + 1, 1, none⟩ = some (.int .i64 pi) := by rw [hP.cell]; rfl
  have p2 : w1.cell? ⟨ra + 1, 2, none⟩ = some (.slice DA pd.length dc) := by rw [hP.cell]; rfl
  have HA := Lib.hid hA
  have HP := Lib.hid hP
  have HK1 := Lib.hid hk1
  have HSP := Lib.hid (nsplit_any F _ pd w1 (hg.keeps hk1 (fun h => h)) (fun b hb => Nat.lt_of_lt_of_le (hF b hb) hk1.size) (hd.keeps hk1 (fun _ _ h => h)))
  have HQ := Lib.hid (hq.keeps hk1 (fun _ _ h => h))
  have HKD := Lib.hid (fun k : Int => (show Keeps nobody w (w1.alloc (.cells #[.int .i64 k] 108)) from hk1.alloc _))
  have HBX := Lib.hid (fun (W : World) (k : Int) => box_cell W (.int .i64 k) 108)
  clear hw1 hA hP hk1 hra hg hF hd hq
  cases op
  · go_wp2_with fail
    go_ret2
    exact .inl ⟨.inl (.inl rfl), _, rfl, ⟨_, _, rfl, HBX.out _ 8⟩, HKD.out 8⟩
  by_cases hid : pi = (aid : Int)
  · subst hid
    have HNB := Lib.hid (show ¬ ((true : Bool) = false ∨ (aid : Int) ≠ (aid : Int)) by simp)
    go_wp2_with fail
    refine HSP.out.mono ?_
    rintro e w2 (⟨hbad, v, rfl, ⟨b, k, rfl, hv⟩, hk2⟩ | ⟨hok, u, zs, rfl, hz, hrow, hk2⟩)
    · have HBAD := Lib.hid hbad
      have HV := Lib.hid hv
      have HK2 := Lib.hid (HK1.out.trans hk2)
      clear hbad hv hk2 HSP
      go_wp2_with fail
      go_ret2
      exact .inl ⟨.inr (.inl HBAD.out), _, rfl, ⟨_, _, rfl, HV.out⟩, HK2.out⟩
    · obtain ⟨U, uc, rfl, _⟩ := hrow.form
      have HOK := Lib.hid hok
      have HZ := Lib.hid hz
      have HK2 := Lib.hid (HK1.out.trans hk2)
      have c0 : w2.cell? ⟨ra + 1, 0, none⟩ = some (.int .i64 pc) := by rw [(HP.out.keeps hk2 (fun h => h)).cell]; rfl
      have c1 : w2.cell? ⟨ra, 1, none⟩ = some (.slice OA qs.length oc) := by rw [(HA.out.keeps hk2 (fun h => h)).cell]; rfl
      have HROW := Lib.hid (show ORow w2 (fun b => w.heap.size ≤ b ∧ b < w2.heap.size) (.slice U zs.length uc) zs from hrow.mono (fun b hb => ⟨Nat.le_trans HK1.out.size hb.1, hb.2⟩))
      have HSM := Lib.hid (same_opts _ G _ _ zs qs w2 hrow (HQ.out.keeps hk2 (fun _ _ h => h)))
      have HWI := Lib.hid (within_any _ G _ _ zs qs w2 hrow (HQ.out.keeps hk2 (fun _ _ h => h)))
      clear hok hz hrow hk2 HSP a0 a1 a2 p0 p1 p2
      by_cases h2 : pc = 2
      · subst h2
        obtain ⟨r, hr⟩ : ∃ r, r = decide (optsOf zs = optsOf qs) := ⟨_, rfl⟩
        rw [← hr] at HSM
        have HR := Lib.hid hr
        clear hr HWI
        go_wp2_with fail
        refine HSM.out.mono ?_
        rintro e w3 ⟨rfl, hk3⟩
        have HK3 := Lib.hid (HK2.out.trans hk3)
        have HKD3 := Lib.hid (fun k : Int => (show Keeps nobody w (w3.alloc (.cells #[.int .i64 k] 108)) from (HK2.out.trans hk3).alloc _))
        have d0 : w3.cell? ⟨ra + 1, 0, none⟩ = some (.int .i64 2) := cell_quiet c0 hk3
        have HROW3 := Lib.hid ((HROW.out.keeps hk3 (fun _ _ h => h)).mono (G := fun b => w.heap.size ≤ b ∧ b < w3.heap.size) (fun b hb => ⟨hb.1, Nat.lt_of_lt_of_le hb.2 hk3.size⟩))
        clear hk3 c0 c1 HSM
        cases r
        · go_wp2_with fail
          go_ret2
          exact .inl ⟨.inr (.inr (.inl ⟨rfl, by rw [← HZ.out]; exact of_decide_eq_false HR.out.symm⟩)), _, rfl, ⟨_, _, rfl, HBX.out _ 10⟩, HKD3.out 10⟩
        · go_wp2_with fail
          go_ret2
          refine .inr ⟨?_, _, zs, rfl, HZ.out, HROW3.out, HK3.out⟩
          rintro (h | h | ⟨_, h⟩ | ⟨h, _⟩)
          · exact HNB.out h
          · exact HOK.out h
          · exact h (by rw [← HZ.out]; exact of_decide_eq_true HR.out.symm)
          · exact absurd h (show ¬ (2 : Int) = 4 by decide)
      · have q2 : (pc == 2) = false := by rw [beq_eq_false_iff_ne]; exact h2
        have H2 := Lib.hid h2
        by_cases h4 : pc = 4
        · subst h4
          obtain ⟨r, hr⟩ : ∃ r, r = Pure.amid (optsOf zs) (optsOf qs) := ⟨_, rfl⟩
          rw [← hr] at HWI
          have HR := Lib.hid hr
          clear hr HSM q2 h2
          go_wp2_with fail
          refine HWI.out.mono ?_
          rintro e w3 ⟨rfl, hk3⟩
          have HK3 := Lib.hid (HK2.out.trans hk3)
          have HKD3 := Lib.hid (fun k : Int => (show Keeps nobody w (w3.alloc (.cells #[.int .i64 k] 108)) from (HK2.out.trans hk3).alloc _))
          have HROW3 := Lib.hid ((HROW.out.keeps hk3 (fun _ _ h => h)).mono (G := fun b => w.heap.size ≤ b ∧ b < w3.heap.size) (fun b hb => ⟨hb.1, Nat.lt_of_lt_of_le hb.2 hk3.size⟩))
          clear hk3 c0 c1 HWI
          cases r
          · go_wp2_with fail
            go_ret2
            exact .inl ⟨.inr (.inr (.inr ⟨rfl, by rw [← HZ.out]; exact HR.out.symm⟩)), _, rfl, ⟨_, _, rfl, HBX.out _ 10⟩, HKD3.out 10⟩
          · go_wp2_with fail
            go_ret2
            refine .inr ⟨?_, _, zs, rfl, HZ.out, HROW3.out, HK3.out⟩
            rintro (h | h | ⟨h, _⟩ | ⟨_, h⟩)
            · exact HNB.out h
            · exact HOK.out h
            · exact absurd h (show ¬ (4 : Int) = 2 by decide)
            · rw [← HZ.out, ← HR.out] at h; cases h
        · have q4 : (pc == 4) = false := by rw [beq_eq_false_iff_ne]; exact h4
          have H4 := Lib.hid h4
          clear h2 h4 HSM HWI
          go_wp2_with fail
          go_ret2
          refine .inr ⟨?_, _, zs, rfl, HZ.out, HROW.out, HK2.out⟩
          rintro (h | h | ⟨h, _⟩ | ⟨h, _⟩)
          · exact HNB.out h
          · exact HOK.out h
          · exact H2.out h
          · exact H4.out h
  · have q : (pi == (aid : Int)) = false := by rw [beq_eq_false_iff_ne]; exact hid
    have HID := Lib.hid hid
    clear hid HSP
    go_wp2_with fail
    go_ret2
    exact .inl ⟨.inl (.inr HID.out), _, rfl, ⟨_, _, rfl, HBX.out _ 8⟩, HKD.out 8⟩
end Go.Proofs.YtjomcffhbaplcaaGreatDoor
