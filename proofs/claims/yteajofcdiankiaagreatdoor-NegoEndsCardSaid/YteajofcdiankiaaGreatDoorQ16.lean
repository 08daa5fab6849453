/- Package packet: Options. -/
import Derived.Test.YteajofcdiankiaaGreatDoorQ5
import Derived.Test.YteajofcdiankiaaGreatDoorQ15
import Derived.Test.YteajofcdiankiaaGreatDoorQ13
import Derived.Test.YteajofcdiankiaaGreatDoorQ14
namespace Go.Proofs.YteajofcdiankiaaGreatDoor
open Go.RowKit
set_option maxRecDepth 100000 in
set_option maxHeartbeats 4000000 in
theorem options_any (F : Nat → Prop) (x : Value) (ps : List (Value × Pure.Opt)) (w : World) (hF : ∀ b, F b → b < w.heap.size) (hx : ORow w F x ps) :
    Calls Tryz.prog 50 #[x] w fun e w' => ∃ u, e = .returned (.tuple #[u, .int .i64 (((Pure.options (optsOf ps)).1 : Nat) : Int)]) ∧ w'.ownsRow w.heap.size 5 1 u (Pure.options (optsOf ps)).2.length (u8s (Pure.options (optsOf ps)).2) ∧ Below w.heap.size w w' := by
  obtain ⟨A, cA, rfl, hc⟩ := hx.form
  have hm := hx.out.2.1
  unfold maxLen at hm
  have HX := Lib.hid hx
  have HF := Lib.hid hF
  clear hx hF
  have hlen : (optsOf ps).length = ps.length := by simp
  have HBy := Lib.hid (fun n w => isByte_any n w)
  go_enter Tryz.func50, Tryz.ntmps50
  by_cases h32 : 32 < ps.length
  · have HO := Lib.hid (Pure.options_long (l := optsOf ps) (by rw [hlen]; exact h32))
    have d0 : decide ((32 : Int) < (ps.length : Int)) = true := decide_eq_true (by omega)
    clear hlen
    go_wp2
    go_ret2
    exact ⟨_, by rw [HO.out]; rfl, by rw [HO.out]; exact World.ownsRow_nil _ _ _ _, Below.refl _ _⟩
  · have d0 : decide ((32 : Int) < (ps.length : Int)) = false := decide_eq_false (by omega)
    have HLen := Lib.hid hlen
    clear hlen
    go_wp2_with fail
    go_loopw [4, 12] (fun v i wr => ∃ k : Nat, k ≤ ps.length ∧ i = .int .i64 (k : Int) ∧ wr.ownsRow w.heap.size 5 1 v (Pure.joined ((optsOf ps).take k)).length (u8s (Pure.joined ((optsOf ps).take k))) ∧ (Pure.joined ((optsOf ps).take k)).length ≤ 255 * k ∧ (∀ o ∈ (optsOf ps).take k, ¬ Pure.Opt.odd o) ∧ Below w.heap.size w wr) (fun _ i _ => ps.length - (intOf i).toNat)
    case atStart => exact ⟨0, by omega, rfl, World.ownsRow_nil _ _ _ _, by simp [Pure.joined], by simp, Below.refl _ _⟩
    case round =>
      obtain ⟨k, hk, rfl, hW, hJl, hE, hK⟩ := hrel
      have HW := Lib.hid hW
      have HE := Lib.hid hE
      have HK := Lib.hid hK
      obtain ⟨A2, c2, rfl⟩ := own_form hW
      by_cases hkl : k < ps.length
      · have i0 : (0 : Int) ≤ (k : Int) := by omega
        have i1 : (k : Int) < (ps.length : Int) := by omega
        obtain ⟨p, o, A1, c1, s, la, rfl, hFp, x0, x1, hra, hpa⟩ := (HX.out.keeps (Keeps.new hK) (fun _ _ h => h)).pick k hkl
        have hps : (optsOf ps)[k]? = some (s, la) := by rw [List.getElem?_map, hpa]; rfl
        have HPS := Lib.hid hps
        have HRA := Lib.hid hra
        have hml := hra.2.1
        unfold maxLen at hml
        obtain ⟨J, hJ⟩ : ∃ J, J = Pure.joined ((optsOf ps).take k) := ⟨_, rfl⟩
        rw [← hJ] at HW hJl ⊢
        have HJ := Lib.hid hJ
        clear hW hE hra hpa hps hJ
        go_upto_region 7 with fail
        obtain ⟨r, hr⟩ : ∃ r, r = wr.heap.size := ⟨_, rfl⟩
        rw [← hr]
        generalize hw1 : wr.alloc _ = w1
        have hb1 : Blk w1 r 54 #[.int .i64 s, .slice A1 la.length c1] := by rw [← hw1, hr]; exact Blk.new wr _ _
        have hk1 : Keeps nobody wr w1 := by rw [← hw1]; exact (Keeps.refl _ wr).alloc _
        have y0 : w1.cell? ⟨r, 0, none⟩ = some (.int .i64 s) := by rw [hb1.cell]; rfl
        have y1 : w1.cell? ⟨r, 1, none⟩ = some (.slice A1 la.length c1) := by rw [hb1.cell]; rfl
        have HW1 := Lib.hid (ownsRow_keeps HW.out hk1 (fun _ _ h => h))
        have HKw := Lib.hid (Below.quiet HK.out hk1 HK.out.size)
        have HRA1 := Lib.hid (HRA.out.keeps hk1 (fun _ _ h => h))
        have hrw : w.heap.size ≤ r := by rw [hr]; exact HK.out.size
        have hAr : (Value.slice A2 J.length c2).ownBlock ≠ some r := fun e => by have := ownsRow_lt HW.out r e; omega
        clear hw1 hr hb1 hk1 x0 x1 HW HK HRA hK
        obtain ⟨od, hod⟩ : ∃ b, b = decide (Pure.Opt.odd (s, la)) := ⟨_, rfl⟩
        obtain ⟨bs, hbs⟩ : ∃ b, b = decide (0 ≤ s ∧ s ≤ 255) := ⟨_, rfl⟩
        have hob : od = (!bs || decide (253 < (la.length : Int))) := by
          have ho : Pure.Opt.odd (s, la) ↔ (s < 0 ∨ 255 < s ∨ 253 < la.length) := Iff.rfl
          rw [hod, hbs, Bool.eq_iff_iff]
          simp only [ho, decide_eq_true_eq, Bool.or_eq_true, Bool.not_eq_true', decide_eq_false_iff_not]
          omega
        have HBs := Lib.hid (HBy.out s)
        rw [← hbs] at HBs
        have HOD := Lib.hid hod
        have HOB := Lib.hid hob
        clear hod hbs hob HBy
        go_cut [25] (fun v wx => v = .bool od ∧ w1 = wx)
        case first =>
          cases bs
          · go_wp2_with fail
            refine (HBs.out _).mono ?_
            rintro e w2 ⟨rfl, rfl⟩
            go_wp2
            go_meet
            exact ⟨by rw [HOB.out]; rfl, rfl⟩
          · go_wp2_with fail
            refine (HBs.out _).mono ?_
            rintro e w2 ⟨rfl, rfl⟩
            go_wp2
            go_meet
            exact ⟨by rw [HOB.out]; rfl, rfl⟩
        case rest =>
          obtain ⟨rfl, rfl⟩ := hcut
          clear HOB HBs
          cases od
          · have ho : ¬ Pure.Opt.odd (s, la) := of_decide_eq_false HOD.out.symm
            have hodd : 0 ≤ s ∧ s ≤ 255 ∧ la.length ≤ 253 := by unfold Pure.Opt.odd at ho; dsimp only at ho; omega
            have HE' := Lib.hid (show ∀ o ∈ (optsOf ps).take (k + 1), ¬ Pure.Opt.odd o by
              intro o hoo
              rw [opt_take _ k _ HPS.out] at hoo
              rcases List.mem_append.1 hoo with h | h
              · exact HE.out o h
              · simp at h; rw [h]; exact ho)
            obtain ⟨x1', hx1⟩ : ∃ x : UInt8, x = UInt8.ofNat s.toNat := ⟨_, rfl⟩
            obtain ⟨x2', hx2⟩ : ∃ x : UInt8, x = UInt8.ofNat (la.length + 2) := ⟨_, rfl⟩
            have f1 : s = (x1'.toNat : Int) := by rw [hx1, UInt8.toNat_ofNat']; omega
            have f2 : (2 : Int) + (la.length : Int) = (x2'.toNat : Int) := by rw [hx2, UInt8.toNat_ofNat']; omega
            have hby : Pure.Opt.bytes (s, la) = [x1', x2'] ++ la := by rw [hx1, hx2]; rfl
            have hJ' : Pure.joined ((optsOf ps).take (k + 1)) = J ++ [x1', x2'] ++ la := by
              rw [opt_take _ k _ HPS.out, ojoined_snoc, hby, HJ.out, List.append_assoc]
            have HJ' := Lib.hid hJ'
            have hla : la.length ≤ 253 := hodd.2.2
            have t1 := x1'.toNat_lt
            have t2 := x2'.toNat_lt
            clear hx1 hx2 hby hJ' ho hodd HJ HPS HE HOD
            subst f1
            have u1 : IntKind.u8.wrap (x1'.toNat : Int) = (x1'.toNat : Int) := IntWalk.u8_in _ (by omega)
            have u2 : IntKind.i64.wrap (x2'.toNat : Int) = (x2'.toNat : Int) := IntWalk.i64_in _ (by omega)
            have u3 : IntKind.u8.wrap (x2'.toNat : Int) = (x2'.toNat : Int) := IntWalk.u8_in _ (by omega)
            go_wp2_with (at_builtin; refine stopHere ?_)
            unfold Hid
            obtain ⟨wb, hwb⟩ : ∃ wb, wb = w1.alloc (.cells #[.int .u8 (x1'.toNat : Int), .int .u8 (x2'.toNat : Int)] 5) := ⟨_, rfl⟩
            rw [← hwb]
            have hkb : Keeps nobody w1 wb := by rw [hwb]; exact (Keeps.refl _ w1).alloc _
            have hrb : Row wb (fun x => x = w1.heap.size) 1 (.slice (some ⟨w1.heap.size, 0, none⟩) 2 2) 2 (u8s [x1', x2']) := by
              have := row_new w1 [x1', x2'] #[.int .u8 (x1'.toNat : Int), .int .u8 (x2'.toNat : Int)] 2 rfl rfl (by simp)
              rw [hwb]
              exact this
            have hzb : wb.heap.size = w1.heap.size + 1 := by rw [hwb]; simp
            have hcb : wb.cell? ⟨r, 1, none⟩ = some (.slice A1 la.length c1) := opt_quiet y1 hkb
            have HBb := Lib.hid (Below.quiet HKw.out hkb HKw.out.size)
            have hWb := ownsRow_keeps HW1.out hkb (fun _ _ h => h)
            clear hwb
            refine wp_append_u8 rfl (.tmp 26) (.tmp 35) rfl w.heap.size (.slice A2 J.length c2) J.length J rfl rfl hWb _ _ [x1', x2'] rfl hrb (by simp; omega) HBb.out.size ?_
            intro v3 w3 hown3 hg3 hat3
            obtain ⟨J2, hJ2⟩ : ∃ l, l = J ++ [x1', x2'] := ⟨_, rfl⟩
            have HJ2l := Lib.hid (show J2.length = J.length + 2 by rw [hJ2]; simp)
            rw [← hJ2] at hown3 HJ'
            clear hJ2
            have hrl : r < wb.heap.size := by have := cell_lt hcb; omega
            have hc3 : w3.cell? ⟨r, 1, none⟩ = some (.slice A1 la.length c1) :=
              (World.cell?_of_block (w := wb) (a := ⟨r, 1, none⟩) (hg3.block r hrl (fun e => hAr e.symm))).trans hcb
            have HB3 := Lib.hid (HBb.out.grown hg3 HBb.out.size (fun k hk => ownsRow_ge HW1.out k hk))
            have HO3 := Lib.hid hown3
            have hkw3 : Keeps (fun b => w.heap.size ≤ b) w1 w3 := (hkb.mono (fun _ h => h.elim)).grown hg3 (fun k hk _ => ownsRow_ge HW1.out k hk)
            have HR3 := Lib.hid (HRA1.out.keeps hkw3 (fun b hb hs => by have h1 := HF.out b hb; have h2 : w.heap.size ≤ b := hs; omega))
            obtain ⟨A3, c3, rfl⟩ := own_form hown3
            clear hkw3 hown3 hg3 hat3 hcb hkb hrb hWb y0 y1 hzb hrl
            go_wp2_with (at_builtin; refine stopHere ?_)
            unfold Hid
            refine wp_append_u8 rfl (.tmp 37) (.tmp 39) rfl w.heap.size _ J2.length J2 rfl rfl HO3.out F (.slice A1 la.length c1) la rfl HR3.out (by have := HJ2l.out; omega) HB3.out.size ?_
            intro v4 w4 hown4 hg4 hat4
            have HB4 := Lib.hid (HB3.out.grown hg4 HB3.out.size (fun k hk => ownsRow_ge HO3.out k hk))
            rw [← HJ'.out] at hown4
            have hl4 : (Pure.joined ((optsOf ps).take (k + 1))).length ≤ 255 * (k + 1) := by
              rw [HJ'.out]; simp only [List.length_append]; have := HJ2l.out; omega
            have HO4 := Lib.hid hown4
            clear hown4 hg4 hat4
            go_wp2_with fail
            go_roundw
            case rel => exact ⟨k + 1, by omega, by go_num, HO4.out, hl4, HE'.out, HB4.out⟩
            case measure => simp [intOf]; omega
          · have ho : Pure.Opt.odd (s, la) := of_decide_eq_true HOD.out.symm
            have HO := Lib.hid (Pure.options_odd (l := optsOf ps) (by rw [HLen.out]; exact h32) (s, la) (List.mem_of_getElem? HPS.out) ho)
            clear ho HOD
            go_wp2
            go_ret2
            exact ⟨_, by rw [HO.out]; rfl, by rw [HO.out]; exact World.ownsRow_nil _ _ _ _, HKw.out⟩
      · have hkk : k = ps.length := by omega
        subst hkk
        have htk : (optsOf ps).take ps.length = optsOf ps := List.take_of_length_le (by rw [HLen.out]; omega)
        rw [htk] at HW HE ⊢
        have HO := Lib.hid (Pure.options_ok (l := optsOf ps) (by rw [HLen.out]; exact h32) HE.out)
        rw [htk] at hW hJl
        clear hW hJl hE hK hkl hk htk
        go_wp2
        go_ret2
        exact ⟨_, by rw [HO.out]; rfl, by rw [HO.out]; exact HW.out, HK.out⟩
end Go.Proofs.YteajofcdiankiaaGreatDoor
/- Package nego: isRequest, bytesOf; refused. -/
namespace Go.Proofs.YteajofcdiankiaaGreatDoor
open Go.RowKit
/-- Rules that are few and small. -/
structure FewRules (us : List (Value × Pure.Rule)) : Prop where
  len : us.length ≤ 100000
  ok : ∀ p ∈ us, p.2.Ok ∧ p.2.want.length ≤ 100000
/-- Options that are few and small. -/
structure FewOpts (zs : List (Value × Pure.Opt)) : Prop where
  len : zs.length ≤ 100000
  data : ∀ p ∈ zs, p.2.2.length ≤ 100000
theorem dead_ok : Pure.deadRule.Ok := fun h => by simp [Pure.deadRule] at h
theorem FewRules.pick {us : List (Value × Pure.Rule)} (h : FewRules us) {r : Pure.Rule} (hp : (∃ p ∈ us, p.2 = r) ∨ r = Pure.deadRule) : r.Ok ∧ r.want.length ≤ 100000 := by
  rcases hp with ⟨p, hp, rfl⟩ | rfl
  · exact h.ok p hp
  · exact ⟨dead_ok, by simp [Pure.deadRule]⟩
/-- What offer answers, in one form. -/
theorem Offs.form {w w' : World} {e : Ending} {o : Option (List UInt8)} (h : Offs w e w' o) : ∃ A n c, e = .returned (.tuple #[.slice A n c, .bool o.isSome]) ∧ Keeps nobody w w' ∧ ∀ d, o = some d → n = d.length ∧ Row w' (fun b => w.heap.size ≤ b) 1 (.slice A n c) n (u8s d) := by
  cases o with
  | none => exact ⟨none, 0, 0, h.1, h.2, fun d hd => by cases hd⟩
  | some d =>
    obtain ⟨A, c, he, hr, hk⟩ := h
    exact ⟨A, d.length, c, he, hk, fun d' hd => by injection hd with hd; subst hd; exact ⟨rfl, hr⟩⟩
theorem isRequest_any (F : Nat → Prop) (x : Value) (ps : List (Value × Pure.Opt)) (w : World) (hF : ∀ b, F b → b < w.heap.size) (hx : ORow w F x ps) :
    Calls Tryz.prog 32 #[x] w fun e w' => e = .returned (.bool (decide ((Pure.options (optsOf ps)).1 = 0))) ∧ Keeps nobody w w' := by
  have HO := Lib.hid (options_any F x ps w hF hx)
  have HD := Lib.hid (show decide ((Pure.options (optsOf ps)).1 = 0) = ((((Pure.options (optsOf ps)).1 : Nat) : Int) == 0) by
    by_cases h : (Pure.options (optsOf ps)).1 = 0
    · rw [h]; rfl
    · rw [decide_eq_false h]; symm; rw [beq_eq_false_iff_ne]; omega)
  clear hF hx
  go_enter Tryz.func32, Tryz.ntmps32
  go_wp2_with fail
  refine HO.out.mono ?_
  rintro e w1 ⟨u, rfl, hu, hb⟩
  obtain ⟨A, c, rfl⟩ := own_form hu
  have HK := Lib.hid (Keeps.new hb)
  clear hu hb HO
  go_wp2_with fail
  go_ret
  exact ⟨by rw [HD.out]; rfl, HK.out⟩
theorem bytesOf_any (F : Nat → Prop) (x : Value) (ps : List (Value × Pure.Opt)) (w : World) (hF : ∀ b, F b → b < w.heap.size) (hx : ORow w F x ps) :
    Calls Tryz.prog 73 #[x] w fun e w' => ∃ A c, e = .returned (.slice A (Pure.options (optsOf ps)).2.length c) ∧ Row w' (fun b => w.heap.size ≤ b) 1 (.slice A (Pure.options (optsOf ps)).2.length c) (Pure.options (optsOf ps)).2.length (u8s (Pure.options (optsOf ps)).2) ∧ Keeps nobody w w' := by
  have HO := Lib.hid (options_any F x ps w hF hx)
  clear hF hx
  go_enter Tryz.func73, Tryz.ntmps73
  go_wp2_with fail
  refine HO.out.mono ?_
  rintro e w1 ⟨u, rfl, hu, hb⟩
  obtain ⟨A, c, rfl⟩ := own_form hu
  have HU := Lib.hid ((Row.of_own hu).mono (G := fun b => w.heap.size ≤ b) (fun b hb => ownsRow_ge hu b hb))
  have HK := Lib.hid (Keeps.new hb)
  clear hu hb HO
  go_wp2_with fail
  go_ret
  exact ⟨_, _, rfl, HU.out, HK.out⟩
set_option maxRecDepth 100000 in
set_option maxHeartbeats 8000000 in
theorem refused_any (Fu Fx : Nat → Prop) (xu x : Value) (us : List (Value × Pure.Rule)) (zs : List (Value × Pure.Opt)) (rejects : Bool) (w : World) (hu : RRow w Fu xu us) (hx : ORow w Fx x zs) (hfu : FewRules us) (hfx : FewOpts zs) :
    Calls Tryz.prog 46 #[xu, x, .bool rejects] w fun e w' => ∃ u, ∃ qs : List (Value × Pure.Opt), e = .returned u ∧ optsOf qs = (Pure.judgeTo (rulesOf us) rejects (optsOf zs) zs.length).1 ∧ Read w w' u qs := by
  obtain ⟨X, cx, rfl, _⟩ := hx.form
  obtain ⟨U, cu, rfl, _⟩ := hu.form
  have HX := Lib.hid hx
  have HU := Lib.hid hu
  have HFU := Lib.hid hfu
  have HFX := Lib.hid hfx
  have hzl := hfx.len
  clear hx hu hfu hfx
  go_enter Tryz.func46, Tryz.ntmps46
  go_wp2_with fail
  go_loopw [7, 15] (fun v i wr => ∃ k : Nat, k ≤ zs.length ∧ i = .int .i64 (k : Int) ∧ ∃ qs : List (Value × Pure.Opt), optsOf qs = (Pure.judgeTo (rulesOf us) rejects (optsOf zs) k).1 ∧ qs.length ≤ k ∧ Read w wr v qs) (fun _ i _ => zs.length - (intOf i).toNat)
  case atStart => exact ⟨0, by omega, rfl, [], rfl, by simp, Read.nil w⟩
  case round =>
    obtain ⟨k, hk, rfl, qs, hqs, hql, hrd⟩ := hrel
    obtain ⟨A2, c2, rfl⟩ := own_form hrd.own
    have HQS := Lib.hid hqs
    have HRD := Lib.hid hrd
    clear hqs hrd
    by_cases hkl : k < zs.length
    · have i0' : (0 : Int) ≤ (k : Int) := by omega
      have i1 : (k : Int) < (zs.length : Int) := by omega
      have d1 : decide ((k : Int) < (zs.length : Int)) = true := decide_eq_true (by omega)
      have d2 : decide (k < zs.length) = true := decide_eq_true hkl
      have hkw : Keeps nobody w wr := Keeps.new HRD.out.below
      obtain ⟨bx, ox, A1, c1, t, D, rfl, hFb, x0, x1, hra, hpa⟩ := (HX.out.keeps hkw (fun _ _ h => h)).pick k hkl
      have hDl : D.length ≤ 100000 := HFX.out.data _ (List.mem_of_getElem? hpa)
      have hok : (optsOf zs)[k]? = some (t, D) := by rw [List.getElem?_map, hpa]; rfl
      have HST := Lib.hid (Pure.judgeTo_step (rulesOf us) rejects (optsOf zs) k (t, D) hok)
      have HOK := Lib.hid hok
      have HRA := Lib.hid hra
      have HKW := Lib.hid hkw
      clear hra hpa hok hkw
      go_upto_region 5 with fail
      obtain ⟨wb, hwb⟩ : ∃ wb, wb = wr.alloc (.cells #[.int .i64 t, .slice A1 D.length c1] 54) := ⟨_, rfl⟩
      obtain ⟨gb, hgb⟩ : ∃ gb, gb = wr.heap.size := ⟨_, rfl⟩
      rw [← hwb, ← hgb]
      have hkb : Keeps nobody wr wb := by rw [hwb]; exact (Keeps.refl _ wr).alloc _
      have hbb : Blk wb gb 54 #[.int .i64 t, .slice A1 D.length c1] := by rw [hwb, hgb]; exact Blk.new wr _ _
      have y0 : wb.cell? ⟨gb, 0, none⟩ = some (.int .i64 t) := by rw [hbb.cell]; rfl
      have y1 : wb.cell? ⟨gb, 1, none⟩ = some (.slice A1 D.length c1) := by rw [hbb.cell]; rfl
      have HKb := Lib.hid hkb
      have HRF := Lib.hid (ruleFor_any Fu (.slice U us.length cu) us t wb (HU.out.keeps (HKW.out.trans hkb) (fun _ _ h => h)))
      clear hwb hgb hbb hkb x0 x1
      go_wp2_with fail
      refine HRF.out.mono ?_
      rintro e w2 ⟨pA, pc, pr, rfl, hpr, hrow, hin, hk2⟩
      have HPR := Lib.hid hpr
      have HIN := Lib.hid (HFU.out.pick hin)
      have HRW := Lib.hid hrow
      have HK2 := Lib.hid (HKb.out.trans hk2)
      have y0' := cell_quiet y0 hk2
      have y1' := cell_quiet y1 hk2
      clear hpr hrow hin hk2 HRF y0 y1
      go_upto_region 6 with fail
      obtain ⟨w3, hw3⟩ : ∃ w3, w3 = w2.alloc (.cells (ruleCells (.slice pA pr.want.length pc, pr)).toArray 28) := ⟨_, rfl⟩
      obtain ⟨gr, hgr⟩ : ∃ gr, gr = w2.heap.size := ⟨_, rfl⟩
      rw [show w2.alloc (.cells #[.int .i64 pr.type, .int .i64 pr.len, .int .i64 pr.how, .int .i64 pr.lo, .int .i64 pr.hi, .slice pA pr.want.length pc, .bool pr.need] 28) = w3 from hw3.symm, ← hgr]
      have hk3 : Keeps nobody w2 w3 := by rw [hw3]; exact (Keeps.refl _ w2).alloc _
      have hb3 : Blk w3 gr 28 (ruleCells (.slice pA pr.want.length pc, pr)).toArray := by rw [hw3, hgr]; exact Blk.new w2 _ _
      have HC3 := Lib.hid (fun j u (h : (ruleCells (.slice pA pr.want.length pc, pr))[j]? = some u) => show w3.cell? ⟨gr, j, none⟩ = some u by rw [hb3.cell, List.getElem?_toArray]; exact h)
      have HK3 := Lib.hid (HK2.out.trans hk3)
      have HY := Lib.hid (And.intro (cell_quiet y0' hk3) (cell_quiet y1' hk3))
      have HRW3 := Lib.hid (HRW.out.keeps hk3 (fun _ _ h => h))
      have HOF := Lib.hid (offer_any Fx (fun _ => True) (.slice pA pr.want.length pc) (.slice A1 D.length c1) pr D w3 (HRA.out.keeps HK3.out (fun _ _ h => h)) HRW3.out (by have := HIN.out.2; omega) HIN.out.1)
      have z0 := HC3.out 0 _ rfl
      have z1 := HC3.out 1 _ rfl
      have z2 := HC3.out 2 _ rfl
      have z3 := HC3.out 3 _ rfl
      have z4 := HC3.out 4 _ rfl
      have z5 := HC3.out 5 _ rfl
      have z6 := HC3.out 6 _ rfl
      have yy := HY.out.2
      clear hw3 hgr hk3 hb3 y0' y1'
      go_wp2_with fail
      refine HOF.out.mono ?_
      rintro e w4 hoff
      obtain ⟨oA, on', oc, rfl, hk4, _⟩ := hoff.form
      obtain ⟨ok, hok⟩ : ∃ ok, ok = (pr.offerP D).isSome := ⟨_, rfl⟩
      rw [← hok]
      have HOKS := Lib.hid hok
      have HK4 := Lib.hid (HK3.out.trans hk4)
      have HC4 := Lib.hid (fun j u (h : (ruleCells (.slice pA pr.want.length pc, pr))[j]? = some u) => cell_quiet (HC3.out j u h) hk4)
      have HY4 := Lib.hid (And.intro (cell_quiet HY.out.1 hk4) (cell_quiet HY.out.2 hk4))
      have HRW4 := Lib.hid (HRW3.out.keeps hk4 (fun _ _ h => h))
      clear z0 z1 z2 z3 z4 z5 z6 yy hoff hk4 hok HOF HC3 HY HRW3
      have HFI := Lib.hid (find_any Fx (.slice (some ⟨bx, ox, none⟩) zs.length cx) zs t w4 (HX.out.keeps (HKW.out.trans HK4.out) (fun _ _ h => h)))
      go_upto_region 7 with fail
      go_cut [50] (fun s wx => s = .bool (Pure.refuses (rulesOf us) rejects ((optsOf zs).take k) (t, D)) ∧ Keeps nobody w4 wx)
      case first =>
        have yy := HY4.out.1
        go_wp2_with fail
        refine HFI.out.mono ?_
        rintro e w5 ⟨i, rfl, hp, hk5⟩
        obtain ⟨B, hB⟩ : ∃ B, B = decide (i < (k : Int)) := ⟨_, rfl⟩
        have HBF := Lib.hid (show B = Pure.hasType ((optsOf zs).take k) t from hB.trans (hp.before k (t, D) HOK.out (by simp)))
        have HC5 := Lib.hid (fun j u (h : (ruleCells (.slice pA pr.want.length pc, pr))[j]? = some u) => cell_quiet (HC4.out j u h) hk5)
        have y5 := cell_quiet HY4.out.2 hk5
        have HPF := Lib.hid (pfits_any Fx (fun _ => True) (.slice pA pr.want.length pc) (.slice A1 D.length c1) pr D w5 (HRA.out.keeps (HK4.out.trans hk5) (fun _ _ h => h)) (HRW4.out.keeps hk5 (fun _ _ h => h)) HIN.out.1)
        have HK5 := Lib.hid hk5
        have z0 := HC5.out 0 _ rfl
        have z1 := HC5.out 1 _ rfl
        have z2 := HC5.out 2 _ rfl
        have z3 := HC5.out 3 _ rfl
        have z4 := HC5.out 4 _ rfl
        have z5 := HC5.out 5 _ rfl
        have z6 := HC5.out 6 _ rfl
        clear hp hk5 yy HFI
        cases B
        · have dB : decide (i < (k : Int)) = false := hB.symm
          clear hB
          obtain ⟨f, hf⟩ : ∃ f, f = decide (pr.fits D) := ⟨_, rfl⟩
          rw [← hf] at HPF
          have HE := Lib.hid (show Pure.refuses (rulesOf us) rejects ((optsOf zs).take k) (t, D) = (!f && (rejects || !ok)) by
            unfold Pure.refuses
            dsimp only
            rw [← HBF.out, ← HPR.out, ← hf, Bool.false_or, HOKS.out, Pure.offerP_some]
            cases pr.offers D <;> rfl)
          clear hf
          go_wp2_with fail
          refine HPF.out.mono ?_
          rintro e w6 ⟨rfl, hk6⟩
          have HK6 := Lib.hid (HK5.out.trans hk6)
          clear hk6 z0 z1 z2 z3 z4 z5 z6 y5 HPF
          cases f
          · cases rejects
            · cases ok
              · go_wp2_with fail
                go_meet
                exact ⟨congrArg Value.bool HE.out.symm, HK6.out⟩
              · go_wp2_with fail
                go_meet
                exact ⟨congrArg Value.bool HE.out.symm, HK6.out⟩
            · go_wp2_with fail
              go_meet
              exact ⟨congrArg Value.bool HE.out.symm, HK6.out⟩
          · go_wp2_with fail
            go_meet
            exact ⟨congrArg Value.bool HE.out.symm, HK6.out⟩
        · have dB : decide (i < (k : Int)) = true := hB.symm
          clear hB
          have HE := Lib.hid (show Pure.refuses (rulesOf us) rejects ((optsOf zs).take k) (t, D) = true by
            unfold Pure.refuses
            dsimp only
            rw [← HBF.out]
            rfl)
          go_wp2_with fail
          go_meet
          exact ⟨congrArg Value.bool HE.out.symm, HK5.out⟩
      case rest =>
        obtain ⟨hs, hkc⟩ := hcut
        obtain ⟨b, hb⟩ : ∃ b, b = Pure.refuses (rulesOf us) rejects ((optsOf zs).take k) (t, D) := ⟨_, rfl⟩
        rw [← hb] at hs HST
        have HKC := Lib.hid (HK4.out.trans hkc)
        have y0 := cell_quiet HY4.out.1 hkc
        have y1 := cell_quiet HY4.out.2 hkc
        subst hs
        clear hkc hb HFI HC4 HY4
        cases b
        · have HST2 := Lib.hid (show (Pure.judgeTo (rulesOf us) rejects (optsOf zs) (k + 1)).1 = (Pure.judgeTo (rulesOf us) rejects (optsOf zs) k).1 by rw [HST.out]; rfl)
          clear HST y0 y1
          go_wp2_with fail
          go_roundw
          case rel => exact ⟨k + 1, by omega, by go_num, _, by rw [HST2.out, ← HQS.out], by omega, HRD.out.keeps HKC.out⟩
          case measure => simp [intOf] <;> omega
        · have HST2 := Lib.hid (show (Pure.judgeTo (rulesOf us) rejects (optsOf zs) (k + 1)).1 = (Pure.judgeTo (rulesOf us) rejects (optsOf zs) k).1 ++ [(t, D)] by rw [HST.out]; rfl)
          have HCP := Lib.hid (copied_any Fx (.slice A1 D.length c1) t D wc (HRA.out.keeps HKC.out (fun _ _ h => h)) (by omega))
          clear HST
          go_wp2_with fail
          refine HCP.out.mono ?_
          rintro e w7 ⟨A3, c3, rfl, hu, hk7⟩
          have hkr : Keeps nobody wr w7 := HKC.out.trans hk7
          have HUU := Lib.hid (HRD.out.fresh (hu.mono (G := fun b => wr.heap.size ≤ b) (fun b hb => Nat.le_trans HKC.out.size hb)))
          have HR2 := Lib.hid (HRD.out.keeps hkr)
          clear hu hk7 hkr HCP y0 y1
          go_wp2_with (at_builtin; refine stopHere ?_)
          unfold Hid
          refine wp_append_opt rfl (.tmp 51) (.tmp 54) rfl _ qs A3 c3 t D rfl rfl HR2.out (by omega) HUU.out ?_
          intro A4 c4 w8 hread hkx
          have HRead := Lib.hid hread
          clear hread hkx
          go_wp2_with fail
          go_roundw
          case rel => exact ⟨k + 1, by omega, by go_num, qs ++ [(.slice A3 D.length c3, (t, D))], by rw [HST2.out, ← HQS.out]; simp [optsOf], by simp; omega, HRead.out⟩
          case measure => simp [intOf] <;> omega
    · have hkk : k = zs.length := by omega
      subst hkk
      have d1 : decide ((zs.length : Int) < (zs.length : Int)) = false := decide_eq_false (by omega)
      have d2 : decide (zs.length < zs.length) = false := decide_eq_false (by omega)
      go_wp2
      go_ret
      exact ⟨_, qs, rfl, HQS.out, HRD.out⟩
end Go.Proofs.YteajofcdiankiaaGreatDoor
