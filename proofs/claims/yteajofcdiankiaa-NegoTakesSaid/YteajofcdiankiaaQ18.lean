/- Package packet: Options. -/
import Derived.Test.YteajofcdiankiaaQ5
import Derived.Test.YteajofcdiankiaaQ17
namespace Go.Proofs.Yteajofcdiankiaa
open Go.RowKit
set_option maxRecDepth 100000 in
set_option maxHeartbeats 4000000 in
theorem options_any (F : Nat → Prop) (x : Value) (ps : List (Value × Pure.Opt)) (w : World) (hF : ∀ b, F b → b < w.heap.size) (hx : ORow w F x ps) :
    Calls Try.prog 61 #[x] w fun e w' => ∃ u, e = .returned (.tuple #[u, .int .i64 (((Pure.options (optsOf ps)).1 : Nat) : Int)]) ∧ w'.ownsRow w.heap.size 5 1 u (Pure.options (optsOf ps)).2.length (u8s (Pure.options (optsOf ps)).2) ∧ Below w.heap.size w w' := by
  obtain ⟨A, cA, rfl, hc⟩ := hx.form
  have hm := hx.out.2.1
  unfold maxLen at hm
  have HX := Lib.hid hx
  have HF := Lib.hid hF
  clear hx hF
  have hlen : (optsOf ps).length = ps.length := by simp
  have HBy := Lib.hid (fun n w => isByte_any n w)
  go_enter Try.func61, Try.ntmps61
  by_cases h32 : 32 < ps.length
  · have HO := Lib.hid (Pure.options_long (l := optsOf ps) (by rw [hlen]; exact h32))
    have d0 : decide ((32 : Int) < (ps.length : Int)) = true := decide_eq_true (by omega)
    clear hlen
    go_wp2
    go_ret2
    exact ⟨_, by rw [HO.out]; rfl, by rw [HO.out]; exact World.ownsRow_nil _ _ _ _, Below.refl _ _⟩
  · have d0 : decide ((32 : Int) < (ps.length : Int)) = false := decide_eq_false (by omega)
    have HLen := Lib.hid hlen
    clear hlen
    go_wp2_with fail
    go_loopw [4, 12] (fun v i wr => ∃ k : Nat, k ≤ ps.length ∧ i = .int .i64 (k : Int) ∧ wr.ownsRow w.heap.size 5 1 v (Pure.joined ((optsOf ps).take k)).length (u8s (Pure.joined ((optsOf ps).take k))) ∧ (Pure.joined ((optsOf ps).take k)).length ≤ 255 * k ∧ (∀ o ∈ (optsOf ps).take k, ¬ Pure.Opt.odd o) ∧ Below w.heap.size w wr) (fun _ i _ => ps.length - (intOf i).toNat)
    case atStart => exact ⟨0, by omega, rfl, World.ownsRow_nil _ _ _ _, by simp [Pure.joined], by simp, Below.refl _ _⟩
    case round =>
      obtain ⟨k, hk, rfl, hW, hJl, hE, hK⟩ := hrel
      have HW := Lib.hid hW
      have HE := Lib.hid hE
      have HK := Lib.hid hK
      obtain ⟨A2, c2, rfl⟩ := own_form hW
      by_cases hkl : k < ps.length
      · have i0 : (0 : Int) ≤ (k : Int) := by omega
        have i1 : (k : Int) < (ps.length : Int) := by omega
        obtain ⟨p, o, A1, c1, s, la, rfl, hFp, x0, x1, hra, hpa⟩ := (HX.out.keeps (Keeps.new hK) (fun _ _ h => h)).pick k hkl
        have hps : (optsOf ps)[k]? = some (s, la) := by rw [List.getElem?_map, hpa]; rfl
        have HPS := Lib.hid hps
        have HRA := Lib.hid hra
        have hml := hra.2.1
        unfold maxLen at hml
        obtain ⟨J, hJ⟩ : ∃ J, J = Pure.joined ((optsOf ps).take k) := ⟨_, rfl⟩
        rw [← hJ] at HW hJl ⊢
        have HJ := Lib.hid hJ
        clear hW hE hra hpa hps hJ
        go_upto_region 7 with fail
        obtain ⟨r, hr⟩ : ∃ r, r = wr.heap.size := ⟨_, rfl⟩
        rw [← hr]
        generalize hw1 : wr.alloc _ = w1
        have hb1 : Blk w1 r 32 #[.int .i64 s, .slice A1 la.length c1] := by rw [← hw1, hr]; exact Blk.new wr _ _
        have hk1 : Keeps nobody wr w1 := by rw [← hw1]; exact (Keeps.refl _ wr).alloc _
        have y0 : w1.cell? ⟨r, 0, none⟩ = some (.int .i64 s) := by rw [hb1.cell]; rfl
        have y1 : w1.cell? ⟨r, 1, none⟩ = some (.slice A1 la.length c1) := by rw [hb1.cell]; rfl
        have HW1 := Lib.hid (ownsRow_keeps HW.out hk1 (fun _ _ h => h))
        have HKw := Lib.hid (Below.quiet HK.out hk1 HK.out.size)
        have HRA1 := Lib.hid (HRA.out.keeps hk1 (fun _ _ h => h))
        have hrw : w.heap.size ≤ r := by rw [hr]; exact HK.out.size
        have hAr : (Value.slice A2 J.length c2).ownBlock ≠ some r := fun e => by have := ownsRow_lt HW.out r e; omega
        clear hw1 hr hb1 hk1 x0 x1 HW HK HRA hK
        obtain ⟨od, hod⟩ : ∃ b, b = decide (Pure.Opt.odd (s, la)) := ⟨_, rfl⟩
        obtain ⟨bs, hbs⟩ : ∃ b, b = decide (0 ≤ s ∧ s ≤ 255) := ⟨_, rfl⟩
        have hob : od = (!bs || decide (253 < (la.length : Int))) := by
          have ho : Pure.Opt.odd (s, la) ↔ (s < 0 ∨ 255 < s ∨ 253 < la.length) := Iff.rfl
          rw [hod, hbs, Bool.eq_iff_iff]
          simp only [ho, decide_eq_true_eq, Bool.or_eq_true, Bool.not_eq_true', decide_eq_false_iff_not]
          omega
        have HBs := Lib.hid (HBy.out s)
        rw [← hbs] at HBs
        have HOD := Lib.hid hod
        have HOB := Lib.hid hob
        clear hod hbs hob HBy
        go_cut [25] (fun v wx => v = .bool od ∧ w1 = wx)
        case first =>
          cases bs
          · go_wp2_with fail
            refine (HBs.out _).mono ?_
            rintro e w2 ⟨rfl, rfl⟩
            go_wp2
            go_meet
            exact ⟨by rw [HOB.out]; rfl, rfl⟩
          · go_wp2_with fail
            refine (HBs.out _).mono ?_
            rintro e w2 ⟨rfl, rfl⟩
            go_wp2
            go_meet
            exact ⟨by rw [HOB.out]; rfl, rfl⟩
        case rest =>
          obtain ⟨rfl, rfl⟩ := hcut
          clear HOB HBs
          cases od
          · have ho : ¬ Pure.Opt.odd (s, la) := of_decide_eq_false HOD.out.symm
            have hodd : 0 ≤ s ∧ s ≤ 255 ∧ la.length ≤ 253 := by unfold Pure.Opt.odd at ho; dsimp only at ho; omega
            have HE' := Lib.hid (show ∀ o ∈ (optsOf ps).take (k + 1), ¬ Pure.Opt.odd o by
              intro o hoo
              rw [opt_take _ k _ HPS.out] at hoo
              rcases List.mem_append.1 hoo with h | h
              · exact HE.out o h
              · simp at h; rw [h]; exact ho)
            obtain ⟨x1', hx1⟩ : ∃ x : UInt8, x = UInt8.ofNat s.toNat := ⟨_, rfl⟩
            obtain ⟨x2', hx2⟩ : ∃ x : UInt8, x = UInt8.ofNat (la.length + 2) := ⟨_, rfl⟩
            have f1 : s = (x1'.toNat : Int) := by rw [hx1, UInt8.toNat_ofNat']; omega
            have f2 : (2 : Int) + (la.length : Int) = (x2'.toNat : Int) := by rw [hx2, UInt8.toNat_ofNat']; omega
            have hby : Pure.Opt.bytes (s, la) = [x1', x2'] ++ la := by rw [hx1, hx2]; rfl
            have hJ' : Pure.joined ((optsOf ps).take (k + 1)) = J ++ [x1', x2'] ++ la := by
              rw [opt_take _ k _ HPS.out, ojoined_snoc, hby, HJ.out, List.append_assoc]
            have HJ' := Lib.hid hJ'
            have hla : la.length ≤ 253 := hodd.2.2
            have t1 := x1'.toNat_lt
            have t2 := x2'.toNat_lt
            clear hx1 hx2 hby hJ' ho hodd HJ HPS HE HOD
            subst f1
            have u1 : IntKind.u8.wrap (x1'.toNat : Int) = (x1'.toNat : Int) := IntWalk.u8_in _ (by omega)
            have u2 : IntKind.i64.wrap (x2'.toNat : Int) = (x2'.toNat : Int) := IntWalk.i64_in _ (by omega)
            have u3 : IntKind.u8.wrap (x2'.toNat : Int) = (x2'.toNat : Int) := IntWalk.u8_in _ (by omega)
            go_wp2_with (at_builtin; refine stopHere ?_)
            unfold Hid
            obtain ⟨wb, hwb⟩ : ∃ wb, wb = w1.alloc (.cells #[.int .u8 (x1'.toNat : Int), .int .u8 (x2'.toNat : Int)] 5) := ⟨_, rfl⟩
            rw [← hwb]
            have hkb : Keeps nobody w1 wb := by rw [hwb]; exact (Keeps.refl _ w1).alloc _
            have hrb : Row wb (fun x => x = w1.heap.size) 1 (.slice (some ⟨w1.heap.size, 0, none⟩) 2 2) 2 (u8s [x1', x2']) := by
              have := row_new w1 [x1', x2'] #[.int .u8 (x1'.toNat : Int), .int .u8 (x2'.toNat : Int)] 2 rfl rfl (by simp)
              rw [hwb]
              exact this
            have hzb : wb.heap.size = w1.heap.size + 1 := by rw [hwb]; simp
            have hcb : wb.cell? ⟨r, 1, none⟩ = some (.slice A1 la.length c1) := opt_quiet y1 hkb
            have HBb := Lib.hid (Below.quiet HKw.out hkb HKw.out.size)
            have hWb := ownsRow_keeps HW1.out hkb (fun _ _ h => h)
            clear hwb
            refine wp_append_u8 rfl (.tmp 26) (.tmp 35) rfl w.heap.size (.slice A2 J.length c2) J.length J rfl rfl hWb _ _ [x1', x2'] rfl hrb (by simp; omega) HBb.out.size ?_
            intro v3 w3 hown3 hg3 hat3
            obtain ⟨J2, hJ2⟩ : ∃ l, l = J ++ [x1', x2'] := ⟨_, rfl⟩
            have HJ2l := Lib.hid (show J2.length = J.length + 2 by rw [hJ2]; simp)
            rw [← hJ2] at hown3 HJ'
            clear hJ2
            have hrl : r < wb.heap.size := by have := cell_lt hcb; omega
            have hc3 : w3.cell? ⟨r, 1, none⟩ = some (.slice A1 la.length c1) :=
              (World.cell?_of_block (w := wb) (a := ⟨r, 1, none⟩) (hg3.block r hrl (fun e => hAr e.symm))).trans hcb
            have HB3 := Lib.hid (HBb.out.grown hg3 HBb.out.size (fun k hk => ownsRow_ge HW1.out k hk))
            have HO3 := Lib.hid hown3
            have hkw3 : Keeps (fun b => w.heap.size ≤ b) w1 w3 := (hkb.mono (fun _ h => h.elim)).grown hg3 (fun k hk _ => ownsRow_ge HW1.out k hk)
            have HR3 := Lib.hid (HRA1.out.keeps hkw3 (fun b hb hs => by have h1 := HF.out b hb; have h2 : w.heap.size ≤ b := hs; omega))
            obtain ⟨A3, c3, rfl⟩ := own_form hown3
            clear hkw3 hown3 hg3 hat3 hcb hkb hrb hWb y0 y1 hzb hrl
            go_wp2_with (at_builtin; refine stopHere ?_)
            unfold Hid
            refine wp_append_u8 rfl (.tmp 37) (.tmp 39) rfl w.heap.size _ J2.length J2 rfl rfl HO3.out F (.slice A1 la.length c1) la rfl HR3.out (by have := HJ2l.out; omega) HB3.out.size ?_
            intro v4 w4 hown4 hg4 hat4
            have HB4 := Lib.hid (HB3.out.grown hg4 HB3.out.size (fun k hk => ownsRow_ge HO3.out k hk))
            rw [← HJ'.out] at hown4
            have hl4 : (Pure.joined ((optsOf ps).take (k + 1))).length ≤ 255 * (k + 1) := by
              rw [HJ'.out]; simp only [List.length_append]; have := HJ2l.out; omega
            have HO4 := Lib.hid hown4
            clear hown4 hg4 hat4
            go_wp2_with fail
            go_roundw
            case rel => exact ⟨k + 1, by omega, by go_num, HO4.out, hl4, HE'.out, HB4.out⟩
            case measure => simp [intOf]; omega
          · have ho : Pure.Opt.odd (s, la) := of_decide_eq_true HOD.out.symm
            have HO := Lib.hid (Pure.options_odd (l := optsOf ps) (by rw [HLen.out]; exact h32) (s, la) (List.mem_of_getElem? HPS.out) ho)
            clear ho HOD
            go_wp2
            go_ret2
            exact ⟨_, by rw [HO.out]; rfl, by rw [HO.out]; exact World.ownsRow_nil _ _ _ _, HKw.out⟩
      · have hkk : k = ps.length := by omega
        subst hkk
        have htk : (optsOf ps).take ps.length = optsOf ps := List.take_of_length_le (by rw [HLen.out]; omega)
        rw [htk] at HW HE ⊢
        have HO := Lib.hid (Pure.options_ok (l := optsOf ps) (by rw [HLen.out]; exact h32) HE.out)
        rw [htk] at hW hJl
        clear hW hJl hE hK hkl hk htk
        go_wp2
        go_ret2
        exact ⟨_, by rw [HO.out]; rfl, by rw [HO.out]; exact HW.out, HK.out⟩
end Go.Proofs.Yteajofcdiankiaa
