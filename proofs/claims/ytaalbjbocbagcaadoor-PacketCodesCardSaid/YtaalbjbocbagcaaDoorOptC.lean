/- The document's Options: options as bytes. -/
import Derived.Test.YtaalbjbocbagcaaDoorOptB
import Derived.Test.YtaalbjbocbagcaaDoorAppend
namespace Go.Proofs.YtaalbjbocbagcaaDoor
open Go.RowKit
theorem opt_later {w : World} {o : Obj} {a : Addr} {v : Value} (h : w.cell? a = some v) : (w.alloc o).cell? a = some v :=
  (World.cell?_alloc_lt w o a (by rcases Nat.lt_or_ge a.block w.heap.size with hl | hg; exact hl; simp [World.cell?, Array.getElem?_eq_none hg] at h)).trans h
theorem ojoined_snoc (l : List Pure.Opt) (o : Pure.Opt) : Pure.joined (l ++ [o]) = Pure.joined l ++ Pure.Opt.bytes o := by simp [Pure.joined]
theorem opt_take (l : List Pure.Opt) (k : Nat) (o : Pure.Opt) (h : l[k]? = some o) : l.take (k + 1) = l.take k ++ [o] := by
  have hk := (List.getElem?_eq_some_iff.1 h).1
  rw [List.take_succ_eq_append_getElem hk]
  rw [List.getElem?_eq_getElem hk] at h
  injection h with h
  rw [h]
set_option maxRecDepth 100000 in
set_option maxHeartbeats 4000000 in
theorem docoptions_any (F : Nat → Prop) (x : Value) (ps : List (Value × Pure.Opt)) (w : World) (hF : ∀ b, F b → b < w.heap.size) (hx : ORow w F x ps) :
    Calls Tryd.prog 19 #[x] w fun e w' => ∃ u, e = .returned (.tuple #[u, .int .i64 (((Pure.options (optsOf ps)).1 : Nat) : Int)]) ∧ w'.ownsRow w.heap.size 5 1 u (Pure.options (optsOf ps)).2.length (u8s (Pure.options (optsOf ps)).2) ∧ Below w.heap.size w w' := by
  obtain ⟨A, cA, rfl, hc⟩ := hx.form
  have hm := hx.out.2.1
  unfold maxLen at hm
  have HX := Lib.hid hx
  have HF := Lib.hid hF
  clear hx hF
  have hlen : (optsOf ps).length = ps.length := by simp
  go_enter Tryd.func19, Tryd.ntmps19
  by_cases h32 : 32 < ps.length
  · have HO := Lib.hid (Pure.options_long (l := optsOf ps) (by rw [hlen]; exact h32))
    have d0 : decide ((32 : Int) < (ps.length : Int)) = true := decide_eq_true (by omega)
    clear hlen
    go_wp2
    go_ret2
    exact ⟨_, by rw [HO.out]; rfl, by rw [HO.out]; exact World.ownsRow_nil _ _ _ _, Below.refl _ _⟩
  · have d0 : decide ((32 : Int) < (ps.length : Int)) = false := decide_eq_false (by omega)
    have HLen := Lib.hid hlen
    clear hlen
    go_wp2_with fail
    go_loopw [4, 5] (fun v i wr => ∃ k : Nat, k ≤ ps.length ∧ i = .int .i64 (k : Int) ∧ wr.ownsRow w.heap.size 5 1 v (Pure.joined ((optsOf ps).take k)).length (u8s (Pure.joined ((optsOf ps).take k))) ∧ (Pure.joined ((optsOf ps).take k)).length ≤ 255 * k ∧ (∀ o ∈ (optsOf ps).take k, ¬ Pure.Opt.odd o) ∧ Below w.heap.size w wr) (fun _ i _ => ps.length - (intOf i).toNat)
    case atStart => exact ⟨0, by omega, rfl, World.ownsRow_nil _ _ _ _, by simp [Pure.joined], by simp, Below.refl _ _⟩
    case round =>
      obtain ⟨k, hk, rfl, hW, hJl, hE, hK⟩ := hrel
      have HW := Lib.hid hW
      have HE := Lib.hid hE
      have HK := Lib.hid hK
      obtain ⟨A2, c2, rfl⟩ := own_form hW
      by_cases hkl : k < ps.length
      · have i0 : (0 : Int) ≤ (k : Int) := by omega
        have i1 : (k : Int) < (ps.length : Int) := by omega
        obtain ⟨p, o, A1, c1, s, la, rfl, hFp, x0, x1, hra, hpa⟩ := (HX.out.keeps (Keeps.new hK) (fun _ _ h => h)).pick k hkl
        have hps : (optsOf ps)[k]? = some (s, la) := by rw [List.getElem?_map, hpa]; rfl
        have HPS := Lib.hid hps
        have HRA := Lib.hid hra
        have hml := hra.2.1
        unfold maxLen at hml
        obtain ⟨J, hJ⟩ : ∃ J, J = Pure.joined ((optsOf ps).take k) := ⟨_, rfl⟩
        rw [← hJ] at HW hJl ⊢
        have HJ := Lib.hid hJ
        clear hW hE hK hra hpa hps hJ
        go_upto_region 7 with fail
        go_cut [37] (fun v wx => v = .bool (decide (Pure.Opt.odd (s, la))) ∧ wx = wr)
        case first =>
          by_cases h0 : s < 0
          · have d0 : decide (s < 0) = true := decide_eq_true h0
            have HO := Lib.hid (show decide (Pure.Opt.odd (s, la)) = true from decide_eq_true (by unfold Pure.Opt.odd; dsimp only; omega))
            clear h0
            go_wp2
            go_meet
            exact ⟨by rw [HO.out], rfl⟩
          have d0 : decide (s < 0) = false := decide_eq_false h0
          by_cases h1 : 255 < s
          · have d1 : decide (255 < s) = true := decide_eq_true h1
            have HO := Lib.hid (show decide (Pure.Opt.odd (s, la)) = true from decide_eq_true (by unfold Pure.Opt.odd; dsimp only; omega))
            clear h0 h1
            go_wp2
            go_meet
            exact ⟨by rw [HO.out], rfl⟩
          have d1 : decide (255 < s) = false := decide_eq_false h1
          by_cases h2 : 253 < la.length
          · have d2 : decide ((253 : Int) < (la.length : Int)) = true := decide_eq_true (by omega)
            have HO := Lib.hid (show decide (Pure.Opt.odd (s, la)) = true from decide_eq_true (by unfold Pure.Opt.odd; dsimp only; omega))
            clear h0 h1
            go_wp2
            go_meet
            exact ⟨by rw [HO.out], rfl⟩
          · have d2 : decide ((253 : Int) < (la.length : Int)) = false := decide_eq_false (by omega)
            have HO := Lib.hid (show decide (Pure.Opt.odd (s, la)) = false from decide_eq_false (by unfold Pure.Opt.odd; dsimp only; omega))
            clear h0 h1
            go_wp2
            go_meet
            exact ⟨by rw [HO.out], rfl⟩
        case rest =>
          obtain ⟨rfl, rfl⟩ := hcut
          by_cases ho : Pure.Opt.odd (s, la)
          · rw [decide_eq_true ho]
            have HO := Lib.hid (Pure.options_odd (l := optsOf ps) (by rw [HLen.out]; exact h32) (s, la) (List.mem_of_getElem? HPS.out) ho)
            clear ho
            go_wp2
            go_ret2
            exact ⟨_, by rw [HO.out]; rfl, by rw [HO.out]; exact World.ownsRow_nil _ _ _ _, HK.out⟩
          · rw [decide_eq_false ho]
            have hodd : 0 ≤ s ∧ s ≤ 255 ∧ la.length ≤ 253 := by unfold Pure.Opt.odd at ho; dsimp only at ho; omega
            have HE' := Lib.hid (show ∀ o ∈ (optsOf ps).take (k + 1), ¬ Pure.Opt.odd o by
              intro o hoo
              rw [opt_take _ k _ HPS.out] at hoo
              rcases List.mem_append.1 hoo with h | h
              · exact HE.out o h
              · simp at h; rw [h]; exact ho)
            obtain ⟨x1', hx1⟩ : ∃ x : UInt8, x = UInt8.ofNat s.toNat := ⟨_, rfl⟩
            obtain ⟨x2', hx2⟩ : ∃ x : UInt8, x = UInt8.ofNat (la.length + 2) := ⟨_, rfl⟩
            have f1 : s = (x1'.toNat : Int) := by rw [hx1, UInt8.toNat_ofNat']; omega
            have f2 : (la.length : Int) + 2 = (x2'.toNat : Int) := by rw [hx2, UInt8.toNat_ofNat']; omega
            have hby : Pure.Opt.bytes (s, la) = [x1', x2'] ++ la := by rw [hx1, hx2]; rfl
            have hJ' : Pure.joined ((optsOf ps).take (k + 1)) = J ++ [x1', x2'] ++ la := by
              rw [opt_take _ k _ HPS.out, ojoined_snoc, hby, HJ.out, List.append_assoc]
            have HJ' := Lib.hid hJ'
            have hla : la.length ≤ 253 := hodd.2.2
            have t1 := x1'.toNat_lt
            have t2 := x2'.toNat_lt
            clear hx1 hx2 hby hJ' ho hodd HJ HPS HE
            subst f1
            have u1 : IntKind.u8.wrap (x1'.toNat : Int) = (x1'.toNat : Int) := IntWalk.u8_in _ (by omega)
            have u2 : IntKind.i64.wrap (x2'.toNat : Int) = (x2'.toNat : Int) := IntWalk.i64_in _ (by omega)
            have u3 : IntKind.u8.wrap (x2'.toNat : Int) = (x2'.toNat : Int) := IntWalk.u8_in _ (by omega)
            go_upto_region 9 with fail
            refine wp_region_Z (fun w' => w'.cell? ⟨p, o + k * 2, none⟩ = some (.int .i64 (x1'.toNat : Int)) ∧ w'.cell? ⟨p, o + k * 2 + 1, none⟩ = some (.slice A1 la.length c1)) 17 18 rfl (by kernel_rfl) ⟨x0, x1⟩ (fun hHeld => ?_)
            refine wpAnyZ_take (i := 0) rfl (by kernel_rfl) (fun _ _ _ h => h) (Or.inl ⟨by rfl, by intro w hSw; obtain ⟨s0, s1⟩ := hSw; go_simp; try with_reducible rfl⟩) hHeld.out ?_
            simp only [Act.put, List.setIfInBounds_toArray, Nat.reduceAdd, List.getElem_toArray, List.getElem_cons_succ, List.getElem_cons_zero, List.set_cons_succ, List.set_cons_zero]
            refine wpAnyZ_take (i := 1) rfl (by kernel_rfl) (fun _ _ _ h => h) (Or.inl ⟨by rfl, by intro w hSw; obtain ⟨s0, s1⟩ := hSw; go_simp; try with_reducible rfl⟩) hHeld.out ?_
            simp only [Act.put, List.setIfInBounds_toArray, Nat.reduceAdd, List.getElem_toArray, List.getElem_cons_succ, List.getElem_cons_zero, List.set_cons_succ, List.set_cons_zero]
            refine wpAnyZ_take (i := 2) rfl (by kernel_rfl) (fun _ _ _ h => h) (Or.inl ⟨by rfl, by intro w hSw; obtain ⟨s0, s1⟩ := hSw; go_simp; try with_reducible rfl⟩) hHeld.out ?_
            simp only [Act.put, List.setIfInBounds_toArray, Nat.reduceAdd, List.getElem_toArray, List.getElem_cons_succ, List.getElem_cons_zero, List.set_cons_succ, List.set_cons_zero]
            refine wpAnyZ_take (i := 3) rfl (by kernel_rfl) (fun _ _ _ h => h) (Or.inl ⟨by rfl, by intro w hSw; obtain ⟨s0, s1⟩ := hSw; go_simp; try with_reducible rfl⟩) hHeld.out ?_
            simp only [Act.put, List.setIfInBounds_toArray, Nat.reduceAdd, List.getElem_toArray, List.getElem_cons_succ, List.getElem_cons_zero, List.set_cons_succ, List.set_cons_zero]
            refine wpAnyZ_take (i := 4) rfl (by kernel_rfl) (fun _ _ _ h => h) (Or.inl ⟨by rfl, by intro w hSw; obtain ⟨s0, s1⟩ := hSw; go_simp; try with_reducible rfl⟩) hHeld.out ?_
            simp only [Act.put, List.setIfInBounds_toArray, Nat.reduceAdd, List.getElem_toArray, List.getElem_cons_succ, List.getElem_cons_zero, List.set_cons_succ, List.set_cons_zero]
            refine wpAnyZ_take (i := 5) rfl (by kernel_rfl) (fun _ _ _ h => h) (Or.inl ⟨by rfl, by intro w hSw; obtain ⟨s0, s1⟩ := hSw; go_simp; try with_reducible rfl⟩) hHeld.out ?_
            simp only [Act.put, List.setIfInBounds_toArray, Nat.reduceAdd, List.getElem_toArray, List.getElem_cons_succ, List.getElem_cons_zero, List.set_cons_succ, List.set_cons_zero]
            refine wpAnyZ_take (i := 6) rfl (by kernel_rfl) (fun _ _ _ h => h) (Or.inl ⟨by rfl, by intro w hSw; obtain ⟨s0, s1⟩ := hSw; go_simp; try with_reducible rfl⟩) hHeld.out ?_
            simp only [Act.put, List.setIfInBounds_toArray, Nat.reduceAdd, List.getElem_toArray, List.getElem_cons_succ, List.getElem_cons_zero, List.set_cons_succ, List.set_cons_zero]
            refine wpAnyZ_take (i := 7) rfl (by kernel_rfl) (fun _ _ _ h => h) (Or.inl ⟨by rfl, by intro w hSw; obtain ⟨s0, s1⟩ := hSw; go_simp; try with_reducible rfl⟩) hHeld.out ?_
            simp only [Act.put, List.setIfInBounds_toArray, Nat.reduceAdd, List.getElem_toArray, List.getElem_cons_succ, List.getElem_cons_zero, List.set_cons_succ, List.set_cons_zero]
            refine wpAnyZ_take (i := 8) rfl (by kernel_rfl) (fun _ _ _ h => h) (Or.inl ⟨by rfl, by intro w hSw; obtain ⟨s0, s1⟩ := hSw; go_simp; try with_reducible rfl⟩) hHeld.out ?_
            simp only [Act.put, List.setIfInBounds_toArray, Nat.reduceAdd, List.getElem_toArray, List.getElem_cons_succ, List.getElem_cons_zero, List.set_cons_succ, List.set_cons_zero]
            refine wpAnyZ_take (i := 9) rfl (by kernel_rfl) (fun _ _ _ h => h) (Or.inl ⟨by rfl, by intro w hSw; obtain ⟨s0, s1⟩ := hSw; go_simp; try with_reducible rfl⟩) hHeld.out ?_
            simp only [Act.put, List.setIfInBounds_toArray, Nat.reduceAdd, List.getElem_toArray, List.getElem_cons_succ, List.getElem_cons_zero, List.set_cons_succ, List.set_cons_zero]
            refine wpAnyZ_take (i := 10) rfl (by kernel_rfl) (fun _ _ _ h => h) (Or.inl ⟨by rfl, by intro w hSw; obtain ⟨s0, s1⟩ := hSw; go_simp; try with_reducible rfl⟩) hHeld.out ?_
            simp only [Act.put, List.setIfInBounds_toArray, Nat.reduceAdd, List.getElem_toArray, List.getElem_cons_succ, List.getElem_cons_zero, List.set_cons_succ, List.set_cons_zero]
            refine wpAnyZ_take (i := 11) rfl (by kernel_rfl) (fun _ _ _ h => h) (Or.inl ⟨by rfl, by intro w hSw; obtain ⟨s0, s1⟩ := hSw; go_simp; try with_reducible rfl⟩) hHeld.out ?_
            simp only [Act.put, List.setIfInBounds_toArray, Nat.reduceAdd, List.getElem_toArray, List.getElem_cons_succ, List.getElem_cons_zero, List.set_cons_succ, List.set_cons_zero]
            refine wpAnyZ_take (i := 12) rfl (by kernel_rfl) (fun _ _ _ h => h) (Or.inl ⟨by rfl, by intro w hSw; obtain ⟨s0, s1⟩ := hSw; go_simp; try with_reducible rfl⟩) hHeld.out ?_
            simp only [Act.put, List.setIfInBounds_toArray, Nat.reduceAdd, List.getElem_toArray, List.getElem_cons_succ, List.getElem_cons_zero, List.set_cons_succ, List.set_cons_zero]
            refine wpAnyZ_take (i := 13) rfl (by kernel_rfl) (fun _ _ _ h => h) (Or.inl ⟨by rfl, by intro w hSw; obtain ⟨s0, s1⟩ := hSw; go_simp; try with_reducible rfl⟩) hHeld.out ?_
            simp only [Act.put, List.setIfInBounds_toArray, Nat.reduceAdd, List.getElem_toArray, List.getElem_cons_succ, List.getElem_cons_zero, List.set_cons_succ, List.set_cons_zero]
            refine wpAnyZ_take (i := 14) rfl (by kernel_rfl) (fun _ _ _ h => h) (Or.inl ⟨by rfl, by intro w hSw; obtain ⟨s0, s1⟩ := hSw; go_simp; try with_reducible rfl⟩) hHeld.out ?_
            simp only [Act.put, List.setIfInBounds_toArray, Nat.reduceAdd, List.getElem_toArray, List.getElem_cons_succ, List.getElem_cons_zero, List.set_cons_succ, List.set_cons_zero]
            refine wpAnyZ_one (i := 15) (by kernel_rfl) rfl (fun K hK => ?_)
            go_simp
            refine hK.out _ _ (fun _ => ⟨opt_later (w := wc) hHeld.out.1, opt_later (w := wc) hHeld.out.2⟩) ?_
            obtain ⟨wb, hwb⟩ : ∃ wb, wb = (wc.alloc (.cells #[.int .u8 (x1'.toNat : Int), .int .u8 (x2'.toNat : Int)] 5)).drew := ⟨_, rfl⟩
            rw [← hwb]
            have hkb : Keeps nobody wc wb := by rw [hwb]; exact ((Keeps.refl _ wc).alloc _).drew
            have hrb : Row wb (fun x => x = wc.heap.size) 1 (.slice (some ⟨wc.heap.size, 0, none⟩) 2 2) 2 (u8s [x1', x2']) := by
              have := row_new wc [x1', x2'] #[.int .u8 (x1'.toNat : Int), .int .u8 (x2'.toNat : Int)] 2 rfl rfl (by simp)
              rw [hwb]
              exact this.keeps (Keeps.refl nobody _).drew (fun _ _ h => h)
            have hzb : wc.heap.size ≤ wb.heap.size := hkb.size
            have hcb : wb.cell? ⟨p, o + k * 2, none⟩ = some (.int .i64 (x1'.toNat : Int)) ∧ wb.cell? ⟨p, o + k * 2 + 1, none⟩ = some (.slice A1 la.length c1) := ⟨opt_quiet x0 hkb, opt_quiet x1 hkb⟩
            have HBb := Lib.hid (Below.quiet HK.out hkb HK.out.size)
            have hWb := ownsRow_keeps HW.out hkb (fun _ _ h => h)
            clear hK K hHeld hwb
            try simp only [Nat.reduceAdd]
            refine wpAnyZ_one (i := 16) (by kernel_rfl) rfl (fun K hK => ?_)
            rw [if_pos (by rfl)]
            refine wpo_append_u8 (.tmp 38) (.tmp 53) rfl w.heap.size (.slice A2 J.length c2) J.length J rfl rfl hWb _ _ [x1', x2'] rfl hrb (by simp; omega) HBb.out.size ?_
            intro v3 w3 hown3 hg3 hat3
            have hpw : p < w.heap.size := HF.out p hFp
            have hc3 : w3.cell? ⟨p, o + k * 2, none⟩ = some (.int .i64 (x1'.toNat : Int)) ∧ w3.cell? ⟨p, o + k * 2 + 1, none⟩ = some (.slice A1 la.length c1) :=
              ⟨(World.cell?_of_block (w := wb) (a := ⟨p, o + k * 2, none⟩) (hg3.block p (cell_lt hcb.1) (fun e => by have := ownsRow_ge HW.out p e.symm; omega))).trans hcb.1, (World.cell?_of_block (w := wb) (a := ⟨p, o + k * 2 + 1, none⟩) (hg3.block p (cell_lt hcb.2) (fun e => by have := ownsRow_ge HW.out p e.symm; omega))).trans hcb.2⟩
            have HB3 := Lib.hid (HBb.out.grown hg3 HBb.out.size (fun k hk => ownsRow_ge HW.out k hk))
            have HO3 := Lib.hid hown3
            have HC3 := Lib.hid hc3
            have hkw3 : Keeps (fun b => w.heap.size ≤ b) wc w3 := (hkb.mono (fun _ h => h.elim)).grown hg3 (fun k hk _ => ownsRow_ge HW.out k hk)
            have HR3 := Lib.hid (HRA.out.keeps hkw3 (fun b hb hs => by have h1 := HF.out b hb; have h2 : w.heap.size ≤ b := hs; omega))
            clear hkw3 hown3 hg3 hat3 hcb hkb hrb hWb hc3
            refine hK.out _ _ (fun _ => HC3.out) ?_
            clear hK K
            try simp only [Nat.reduceAdd]
            refine wpAnyZ_one (i := 17) (by kernel_rfl) rfl (fun K hK => ?_)
            rw [if_pos (by rfl)]
            go_simp
            refine hK.out _ _ (fun h => absurd rfl h) ?_
            clear hK K
            refine wpAnyZ_done (by kernel_rfl) ?_ _
            have y0 := HC3.out.1
            have y1 := HC3.out.2
            obtain ⟨A3, c3, rfl⟩ := own_form HO3.out
            go_wp2_with (at_builtin; refine stopHere ?_)
            unfold Hid
            refine wp_append_u8 rfl (.tmp 55) (.tmp 60) rfl w.heap.size _ (J ++ [x1', x2']).length (J ++ [x1', x2']) rfl rfl HO3.out F (.slice A1 la.length c1) la rfl HR3.out (by rw [List.length_append]; simp only [List.length_cons, List.length_nil]; omega) HB3.out.size ?_
            intro v4 w4 hown4 hg4 hat4
            have HB4 := Lib.hid (HB3.out.grown hg4 HB3.out.size (fun k hk => ownsRow_ge HO3.out k hk))
            rw [← HJ'.out] at hown4
            have hl4 : (Pure.joined ((optsOf ps).take (k + 1))).length ≤ 255 * (k + 1) := by
              rw [HJ'.out]; simp only [List.length_append, List.length_cons, List.length_nil]; omega
            have HO4 := Lib.hid hown4
            clear hown4 hg4 hat4 y0 y1
            go_wp2_with fail
            go_roundw
            case rel => exact ⟨k + 1, by omega, by go_num, HO4.out, hl4, HE'.out, HB4.out⟩
            case measure => simp [intOf]; omega
      · have hkk : k = ps.length := by omega
        subst hkk
        have htk : (optsOf ps).take ps.length = optsOf ps := List.take_of_length_le (by rw [HLen.out]; omega)
        rw [htk] at HW HE ⊢
        have HO := Lib.hid (Pure.options_ok (l := optsOf ps) (by rw [HLen.out]; exact h32) HE.out)
        rw [htk] at hW hJl
        clear hW hJl hE hK hkl hk htk
        go_wp2
        go_ret2
        exact ⟨_, by rw [HO.out]; rfl, by rw [HO.out]; exact HW.out, HK.out⟩
end Go.Proofs.YtaalbjbocbagcaaDoor
