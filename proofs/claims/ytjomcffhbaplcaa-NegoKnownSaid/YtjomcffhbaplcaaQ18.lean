/- Package nego: Naked. -/
import Derived.Test.YtjomcffhbaplcaaQ17
import Derived.Test.YtjomcffhbaplcaaQ11
import Derived.Test.YtjomcffhbaplcaaQ5
import Derived.Deep.DeepCutAuto
namespace Go.Proofs.Ytjomcffhbaplcaa
open Go.RowKit
namespace Pure
theorem naked_for (rules : List Rule) (hM : ∀ r : Int × Rule, ruleFor rules r.1 = r.2 → r.2.Ok) (nak : List Opt) (o : Opt) : nakedOne rules nak o = match nak.find? (fun p => decide (p.1 = o.1)) with
    | none => o
    | some p => match (ruleFor rules o.1).heedP p.2 with | some d => (o.1, d) | none => o := by
  unfold nakedOne
  cases nak.find? (fun p => decide (p.1 = o.1)) with
  | none => rfl
  | some p =>
    dsimp only
    unfold ruleFor
    cases hr : ruleOf rules o.1 with
    | none =>
      have : deadRule.heedP p.2 = none := by unfold Rule.heedP deadRule; simp
      simp only [Option.getD_none, this]
    | some r =>
      have hok : r.Ok := hM (o.1, r) (by unfold ruleFor; rw [hr]; rfl)
      simp only [Option.getD_some]
      unfold Rule.heedP
      by_cases h1 : r.how = 1
      · rw [if_pos h1, if_pos h1]
      · rw [if_neg h1, if_neg h1]
        by_cases h2 : r.how = 2
        · by_cases hn : r.numbered p.2
          · rw [if_pos (show r.how = 2 ∧ r.numbered p.2 from ⟨h2, hn⟩), if_pos (show (r.how = 2 ∨ r.how = 4) ∧ r.numbered p.2 from ⟨.inl h2, hn⟩)]
            unfold Rule.nearTo
            rw [if_neg (show ¬ r.how = 4 by omega)]
          · rw [if_neg (show ¬ (r.how = 2 ∧ r.numbered p.2) from fun h => hn h.2), if_neg (show ¬ (r.how = 4 ∧ r.numbered p.2) from fun h => hn h.2), if_neg (show ¬ ((r.how = 2 ∨ r.how = 4) ∧ r.numbered p.2) from fun h => hn h.2)]
        · rw [if_neg (show ¬ (r.how = 2 ∧ r.numbered p.2) from fun h => h2 h.1)]
          by_cases h4 : r.how = 4
          · by_cases hn : r.numbered p.2
            · rw [if_pos (show r.how = 4 ∧ r.numbered p.2 from ⟨h4, hn⟩), if_pos (show (r.how = 2 ∨ r.how = 4) ∧ r.numbered p.2 from ⟨.inr h4, hn⟩)]
              unfold Rule.nearTo
              rw [if_pos h4]
            · rw [if_neg (show ¬ (r.how = 4 ∧ r.numbered p.2) from fun h => hn h.2), if_neg (show ¬ ((r.how = 2 ∨ r.how = 4) ∧ r.numbered p.2) from fun h => hn h.2)]
          · rw [if_neg (show ¬ (r.how = 4 ∧ r.numbered p.2) from fun h => h4 h.1), if_neg (show ¬ ((r.how = 2 ∨ r.how = 4) ∧ r.numbered p.2) from fun h => by rcases h.1 with h | h; exact h2 h; exact h4 h)]
end Pure
theorem optCells_set (qs : List (Value × Pure.Opt)) (k : Nat) (t : Int) (D d : List UInt8) (u v : Value) (h : qs[k]? = some (u, (t, D))) : (optCells qs).set (2 * k + 1) v = optCells (qs.set k (v, (t, d))) := by
  induction qs generalizing k with
  | nil => simp at h
  | cons q qs ih =>
    rcases k with _ | k
    · simp at h
      subst h
      rfl
    · have := ih k (by simpa using h)
      rw [show 2 * (k + 1) + 1 = (2 * k + 1) + 1 + 1 by omega]
      show (Value.int .i64 q.2.1 :: q.1 :: optCells qs).set ((2 * k + 1) + 1 + 1) v = Value.int .i64 q.2.1 :: q.1 :: optCells (qs.set k (v, (t, d)))
      rw [List.set_cons_succ, List.set_cons_succ, this]
/-- New bytes for an option of a row of one's own. -/
theorem Read.put {w0 w : World} {g n c : Nat} {qs : List (Value × Pure.Opt)} (h : Read w0 w (.slice (some ⟨g, 0, none⟩) n c) qs) (k : Nat) (o : Pure.Opt) (d : List UInt8) (A : Option Addr) (cc : Nat) (hk : ∃ u, qs[k]? = some (u, o))
    (hd : Row w (fun b => w0.heap.size ≤ b ∧ (Value.slice (some ⟨g, 0, none⟩) n c).ownBlock ≠ some b ∧ b < w.heap.size) 1 (.slice A d.length cc) d.length (u8s d)) :
    (∃ u, w.cell? ⟨g, k * 2 + 1, none⟩ = some u) ∧ w.frozen? ⟨g, k * 2 + 1, none⟩ = false ∧ Read w0 (w.setCell ⟨g, k * 2 + 1, none⟩ (.slice A d.length cc)) (.slice (some ⟨g, 0, none⟩) n c) (qs.set k (.slice A d.length cc, (o.1, d))) := by
  obtain ⟨u, hk⟩ := hk
  obtain ⟨t, D⟩ := o
  have hkl := (List.getElem?_eq_some_iff.1 hk).1
  obtain ⟨h1, h2⟩ := h.own
  rcases h2 with ⟨e, _⟩ | ⟨g', cap, cur, e, hg, hh, h3, h4, h5, h6⟩
  · cases e
  · injection e with e1 e2 e3
    injection e1 with e1
    injection e1 with e1
    subst e1 e2 e3
    have hb : Blk w g _ cur := hh
    have hsz : k * 2 + 1 < cur.size := by omega
    refine ⟨⟨cur[k * 2 + 1], by rw [hb.cell, Array.getElem?_eq_getElem hsz]⟩, hb.frozen _, ?_⟩
    have hK : Keeps (only g) w (w.setCell ⟨g, k * 2 + 1, none⟩ (.slice A d.length cc)) := (Keeps.refl (only g) w).store g (k * 2 + 1) (fun _ => rfl) _
    have hwsz : (w.setCell ⟨g, k * 2 + 1, none⟩ (.slice A d.length cc)).heap.size = w.heap.size := by simp [World.setCell]
    refine ⟨⟨?_, .inr ⟨g, c, _, by rw [List.length_set], hg, hb.set (k * 2 + 1) _, by rw [List.length_set]; exact h3, h4, by rw [Array.size_setIfInBounds]; exact h5, ?_⟩⟩, fun p hp => ?_, ?_⟩
    · rw [optCells_length]
    · rw [Array.toList_setIfInBounds, List.length_set, List.take_set, h6, show k * 2 + 1 = 2 * k + 1 by omega]
      exact optCells_set qs k t D d u _ hk
    · have hrow : Row w (fun b => w0.heap.size ≤ b ∧ (Value.slice (some ⟨g, 0, none⟩) qs.length c).ownBlock ≠ some b ∧ b < w.heap.size) 1 p.1 p.2.2.length (u8s p.2.2) := by
        rcases List.mem_or_eq_of_mem_set hp with hp | rfl
        · exact h.rows p hp
        · exact hd
      have h7 := hrow.keeps hK (fun b hb e => hb.2.1 (by have e : b = g := e; rw [e]; rfl))
      refine h7.mono (fun b hb => ⟨hb.1, ?_, by rw [hwsz]; exact hb.2.2⟩)
      exact hb.2.1
    · exact Below.keeps h.below hK h.below.size (fun i hi => by have e : i = g := hi; rw [e]; exact hg)
theorem optsOf_set (qs : List (Value × Pure.Opt)) (k : Nat) (p : Value × Pure.Opt) : optsOf (qs.set k p) = (optsOf qs).set k p.2 := by simp [optsOf, List.map_set]
/-- Behind the first k options of a request. -/
def nakedTo (rules : List Pure.Rule) (nak l : List Pure.Opt) (k : Nat) : List Pure.Opt := (l.take k).map (Pure.nakedOne rules nak) ++ l.drop k
theorem naked_same (rules : List Pure.Rule) (nak l : List Pure.Opt) (k : Nat) (o : Pure.Opt) (h : l[k]? = some o) (hn : Pure.nakedOne rules nak o = o) : nakedTo rules nak l k = nakedTo rules nak l (k + 1) := by
  unfold nakedTo
  rw [Pure.take_snoc l k o h, List.map_append, List.map_cons, List.map_nil, hn, List.append_assoc]
  congr 1
  have hk := (List.getElem?_eq_some_iff.1 h).1
  rw [List.drop_eq_getElem_cons hk, (List.getElem?_eq_some_iff.1 h).2]
  rfl
theorem naked_new (rules : List Pure.Rule) (nak l : List Pure.Opt) (k : Nat) (o p : Pure.Opt) (h : l[k]? = some o) (hn : Pure.nakedOne rules nak o = p) : (nakedTo rules nak l k).set k p = nakedTo rules nak l (k + 1) := by
  unfold nakedTo
  have hk := (List.getElem?_eq_some_iff.1 h).1
  rw [Pure.take_snoc l k o h, List.map_append, List.map_cons, List.map_nil, hn, List.append_assoc, List.drop_eq_getElem_cons hk]
  have hl : ((l.take k).map (Pure.nakedOne rules nak)).length = k := by rw [List.length_map, List.length_take]; omega
  rw [List.set_append_right _ _ (by omega), hl, Nat.sub_self, List.set_cons_zero]
  rfl
set_option maxRecDepth 100000 in
set_option maxHeartbeats 8000000 in
theorem naked_any (Fu Fx Fn : Nat → Prop) (xu x xn : Value) (us : List (Value × Pure.Rule)) (zs ns : List (Value × Pure.Opt)) (w : World) (hu : RRow w Fu xu us) (hx : ORow w Fx x zs) (hn : ORow w Fn xn ns) (hfu : FewRules us) (hfx : FewOpts zs) (hfn : FewOpts ns) :
    Calls Try.prog 14 #[xu, x, xn] w fun e w' => ∃ u, ∃ qs : List (Value × Pure.Opt), e = .returned u ∧ optsOf qs = Pure.naked (rulesOf us) (optsOf zs) (optsOf ns) ∧ Read w w' u qs := by
  obtain ⟨U, cu, rfl, _⟩ := hu.form
  obtain ⟨V, cv, rfl, _⟩ := hn.form
  have HU := Lib.hid hu
  have HN := Lib.hid hn
  have HFU := Lib.hid hfu
  have HFN := Lib.hid hfn
  have hzl := hfx.len
  have hnl := hfn.len
  have HOKR := Lib.hid (fun (r : Int × Pure.Rule) (hr : Pure.ruleFor (rulesOf us) r.1 = r.2) => show r.2.Ok by
    unfold Pure.ruleFor at hr
    cases ho : Pure.ruleOf (rulesOf us) r.1 with
    | none => rw [ho] at hr; rw [← hr]; exact dead_ok
    | some q =>
      rw [ho] at hr
      have hr : q = r.2 := hr
      unfold Pure.ruleOf at ho
      obtain ⟨p, hp, he⟩ := List.mem_map.1 (List.mem_of_find?_eq_some ho)
      rw [← hr, ← he]
      exact (hfu.ok p hp).1)
  have HCP := Lib.hid (copies_any Fx x zs w hx hfx.len hfx.data)
  clear hu hx hn hfu hfx hfn
  go_enter Try.func14, Try.ntmps14
  go_wp2_with fail
  refine HCP.out.mono ?_
  rintro e w1 ⟨u0, q0, rfl, hq0, hr0⟩
  obtain ⟨A2, c2, rfl⟩ := own_form hr0.own
  have hl0 : q0.length = zs.length := by have := congrArg List.length hq0; simpa using this
  rw [hl0] at hr0 ⊢
  have HQ0 := Lib.hid hq0
  have HR0 := Lib.hid hr0
  have hk0 : Keeps nobody w w1 := Keeps.new hr0.below
  clear hq0 hr0 HCP hl0 hk0
  go_wp2_with fail
  go_loopw [17] (fun i wr => ∃ k : Nat, k ≤ zs.length ∧ i = .int .i64 (k : Int) ∧ ∃ qs : List (Value × Pure.Opt), optsOf qs = nakedTo (rulesOf us) (optsOf ns) (optsOf zs) k ∧ Read w wr (.slice A2 zs.length c2) qs) (fun i _ => zs.length - (intOf i).toNat)
  case atStart => exact ⟨0, by omega, rfl, q0, by rw [HQ0.out]; simp [nakedTo], HR0.out⟩
  case round =>
    clear HQ0 HR0
    obtain ⟨k, hk, rfl, qs, hqs, hrd⟩ := hrel
    have hql : qs.length = zs.length := by
      have := congrArg List.length hqs
      simp [nakedTo] at this
      omega
    have HQS := Lib.hid hqs
    have HRD := Lib.hid hrd
    have HQL := Lib.hid hql
    clear hqs
    by_cases hkl : k < zs.length
    · have i0' : (0 : Int) ≤ (k : Int) := by omega
      have i1 : (k : Int) < (zs.length : Int) := by omega
      have d1 : decide ((k : Int) < (zs.length : Int)) = true := decide_eq_true (by omega)
      have d2 : decide (k < zs.length) = true := decide_eq_true hkl
      have hrow0 := hrd.row
      obtain ⟨g, rfl, hgl⟩ : ∃ g, A2 = some ⟨g, 0, none⟩ ∧ w.heap.size ≤ g := by
        rcases hrd.own.2 with ⟨e, h0⟩ | ⟨g, cap, cur, e, hg, _⟩
        · omega
        · injection e with e1
          exact ⟨g, e1, hg⟩
      have hok : (optsOf zs)[k]? = some ((optsOf zs)[k]'(by simpa using hkl)) := List.getElem?_eq_getElem _
      obtain ⟨⟨t, D⟩, hoz⟩ : ∃ o, o = (optsOf zs)[k]'(by simpa using hkl) := ⟨_, rfl⟩
      rw [← hoz] at hok
      have hokq : (optsOf qs)[k]? = some (t, D) := by
        rw [HQS.out]
        unfold nakedTo
        rw [List.getElem?_append_right (by rw [List.length_map, List.length_take]; omega), List.getElem?_drop, ← hok]
        congr 1
        simp
        omega
      have HOK := Lib.hid hok
      rw [← hql] at hrow0
      obtain ⟨bx, ox, A1, c1, t', D', e1, hFb, x0, x1, hra, hpa⟩ := hrow0.pick k (by omega)
      obtain ⟨rfl, rfl⟩ : g = bx ∧ ox = 0 := by
        injection e1 with e1
        injection e1 with e1 e2
        exact ⟨e1, e2.symm⟩
      obtain ⟨rfl, rfl⟩ : t' = t ∧ D' = D := by
        rw [List.getElem?_map, hpa] at hokq
        injection hokq with hokq
        injection hokq with a b
        exact ⟨a, b⟩
      have HQK := Lib.hid (show ∃ u, qs[k]? = some (u, (t', D')) from ⟨_, hpa⟩)
      rw [Nat.zero_add] at x0 x1
      clear hok hokq hoz hrow0 e1 hra hpa hrd hql hFb
      go_upto_region 5 with fail
      obtain ⟨wb, hwb⟩ : ∃ wb, wb = wr.alloc (.cells #[.int .i64 t', .slice A1 D'.length c1] 32) := ⟨_, rfl⟩
      obtain ⟨gb, hgb⟩ : ∃ gb, gb = wr.heap.size := ⟨_, rfl⟩
      rw [← hwb, ← hgb]
      have hkb : Keeps nobody wr wb := by rw [hwb]; exact (Keeps.refl _ wr).alloc _
      have hbb : Blk wb gb 32 #[.int .i64 t', .slice A1 D'.length c1] := by rw [hwb, hgb]; exact Blk.new wr _ _
      have y0 : wb.cell? ⟨gb, 0, none⟩ = some (.int .i64 t') := by rw [hbb.cell]; rfl
      have HKW := Lib.hid (Keeps.new HRD.out.below)
      have HKb := Lib.hid hkb
      have HFI := Lib.hid (find_any Fn (.slice V ns.length cv) ns t' wb (HN.out.keeps (HKW.out.trans hkb) (fun _ _ h => h)))
      clear hwb hgb hbb hkb x0 x1
      go_wp2_with fail
      refine HFI.out.mono ?_
      rintro e w2 ⟨i, rfl, hp, hk2⟩
      have HK1 := Lib.hid (HKb.out.trans hk2)
      have HC0 := Lib.hid (cell_quiet y0 hk2)
      clear hk2 y0 HFI
      rcases hp.find with ⟨rfl, hnone⟩ | ⟨j, o, rfl, hjl, hjo, hsome⟩
      · have HE := Lib.hid (show Pure.nakedOne (rulesOf us) (optsOf ns) (t', D') = (t', D') by unfold Pure.nakedOne; dsimp only; rw [hnone])
        clear hp hnone
        go_wp2_with fail
        go_roundw
        case rel => exact ⟨k + 1, by omega, by go_num, _, by rw [HQS.out]; exact naked_same _ _ _ k (t', D') HOK.out HE.out, HRD.out.keeps HK1.out⟩
        case measure => simp [intOf] <;> omega
      · have hjn : j < ns.length := by simpa using hjl
        obtain ⟨bn, nn, A5, c5, t5, D5, rfl, hFn, n0, n1, hrn, hpn⟩ := (HN.out.keeps (HKW.out.trans HK1.out) (fun _ _ h => h)).pick j hjn
        have ho5 : o = (t5, D5) := by
          rw [List.getElem?_map, hpn] at hjo
          injection hjo with hjo
          exact hjo.symm
        subst ho5
        have hD5 : D5.length ≤ 100000 := HFN.out.data _ (List.mem_of_getElem? hpn)
        have HFND := Lib.hid (show (optsOf ns).find? (fun p => decide (p.1 = t')) = some (t5, D5) from hsome)
        have HRN := Lib.hid hrn
        have j0 : (0 : Int) ≤ (j : Int) := by omega
        have j1 : (j : Int) < (ns.length : Int) := by omega
        have dj : decide ((j : Int) < 0) = false := decide_eq_false (by omega)
        have HC1 := Lib.hid (And.intro HC0.out n1)
        have HK13 := Lib.hid HK1.out
        have HKZ := Lib.hid (Keeps.refl nobody w2)
        have HRF := Lib.hid (fun (W : World) (hK : Keeps nobody w2 W) => ruleFor_any Fu (.slice U us.length cu) us t' W (HU.out.keeps ((HKW.out.trans HK1.out).trans hK) (fun _ _ h => h)))
        clear hp hjl hjo hsome hrn hpn n0 n1 hFn
        go_wp2_with fail
        refine wp_region_Z (fun w' => w'.cell? ⟨gb, 0, none⟩ = some (.int .i64 t') ∧ w'.cell? ⟨bn, nn + j * 2 + 1, none⟩ = some (.slice A5 D5.length c5)) 14 15 rfl (by kernel_rfl) ⟨HC1.out.1, HC1.out.2⟩ (fun hHeld => ?_)
        have HSW := hHeld
        clear hHeld
        have HK0d := Lib.hid (HKZ.out.drew)
        refine wpAnyZ_take (i := 0) rfl (by kernel_rfl) (fun _ _ _ h => h) (Or.inl ⟨by rfl, by intro w hSw; obtain ⟨s0, s1⟩ := hSw; go_simp; try with_reducible rfl⟩) HSW.out ?_
        simp only [Act.put, List.setIfInBounds_toArray, List.getElem_toArray, List.getElem_cons_zero, List.set_cons_succ, List.set_cons_zero]
        refine wpAnyZ_take (i := 1) rfl (by kernel_rfl) (fun _ _ _ h => h) (Or.inl ⟨by rfl, by intro w hSw; obtain ⟨s0, s1⟩ := hSw; go_simp; try with_reducible rfl⟩) HSW.out ?_
        simp only [Act.put, List.setIfInBounds_toArray, List.getElem_toArray, List.getElem_cons_succ, List.getElem_cons_zero, List.set_cons_succ, List.set_cons_zero]
        refine wpAnyZ_take (i := 2) rfl (by kernel_rfl) (fun _ _ _ h => h) (Or.inl ⟨by rfl, by intro w hSw; obtain ⟨s0, s1⟩ := hSw; go_simp; try with_reducible rfl⟩) HSW.out ?_
        simp only [Act.put, List.setIfInBounds_toArray, List.getElem_toArray, List.getElem_cons_succ, List.getElem_cons_zero, List.set_cons_succ, List.set_cons_zero]
        refine wpAnyZ_take (i := 4) rfl (by kernel_rfl) (fun _ _ _ h => h) (Or.inl ⟨by rfl, by intro w hSw; obtain ⟨s0, s1⟩ := hSw; go_simp; try with_reducible rfl⟩) HSW.out ?_
        simp only [Act.put, List.setIfInBounds_toArray, List.getElem_toArray, List.getElem_cons_succ, List.getElem_cons_zero, List.set_cons_succ, List.set_cons_zero]
        refine wpAnyZ_take (i := 5) rfl (by kernel_rfl) (fun _ _ _ h => h) (Or.inl ⟨by rfl, by intro w hSw; obtain ⟨s0, s1⟩ := hSw; go_simp; try with_reducible rfl⟩) HSW.out ?_
        simp only [Act.put, List.setIfInBounds_toArray, List.getElem_toArray, List.getElem_cons_succ, List.getElem_cons_zero, List.set_cons_succ, List.set_cons_zero]
        refine wpAnyZ_take (i := 6) rfl (by kernel_rfl) (fun _ _ _ h => h) (Or.inl ⟨by rfl, by intro w hSw; obtain ⟨s0, s1⟩ := hSw; go_simp; try with_reducible rfl⟩) HSW.out ?_
        simp only [Act.put, List.setIfInBounds_toArray, List.getElem_toArray, List.getElem_cons_succ, List.getElem_cons_zero, List.set_cons_succ, List.set_cons_zero]
        refine wpAnyZ_take (i := 7) rfl (by kernel_rfl) (fun _ _ _ h => h) (Or.inl ⟨by rfl, by intro w hSw; obtain ⟨s0, s1⟩ := hSw; go_simp; try with_reducible rfl⟩) HSW.out ?_
        simp only [Act.put, List.setIfInBounds_toArray, List.getElem_toArray, List.getElem_cons_succ, List.getElem_cons_zero, List.set_cons_succ, List.set_cons_zero]
        refine wpAnyZ_take (i := 8) rfl (by kernel_rfl) (fun _ _ _ h => h) (Or.inl ⟨by rfl, by intro w hSw; obtain ⟨s0, s1⟩ := hSw; go_simp; try with_reducible rfl⟩) HSW.out ?_
        simp only [Act.put, List.setIfInBounds_toArray, List.getElem_toArray, List.getElem_cons_succ, List.getElem_cons_zero, List.set_cons_succ, List.set_cons_zero]
        refine wpAnyZ_one (i := 3) (by kernel_rfl) rfl (fun K hK => ?_)
        try rw [if_pos (by rfl)]
        go_simp
        refine (HRF.out _ HK0d.out).mono ?_
        rintro e w3 ⟨pA, pc, pr, rfl, hpr, hrow, hin, hk3⟩
        have HPR := Lib.hid hpr
        have HIN := Lib.hid (HFU.out.pick hin)
        have HRW := Lib.hid hrow
        have HK3 := Lib.hid (HK0d.out.trans hk3)
        have HS3 := Lib.hid (And.intro (cell_quiet HSW.out.1 hk3) (cell_quiet HSW.out.2 hk3))
        clear hpr hrow hin hk3
        refine hK.out _ _ (fun _ => HS3.out) ?_
        clear hK K
        try simp only [Act.put, List.setIfInBounds_toArray, Nat.reduceAdd, List.getElem_toArray, List.getElem_cons_succ, List.getElem_cons_zero, List.set_cons_succ, List.set_cons_zero]
        refine wpAnyZ_one (i := 9) (by kernel_rfl) rfl (fun K hK => ?_)
        try rw [if_pos (by rfl)]
        go_simp
        refine (heed_any Fn (.slice pA pr.want.length pc) (.slice A5 D5.length c5) pr D5 _ (HRN.out.keeps HK3.out (fun _ _ h => h)) (by omega) HIN.out.1).mono ?_
        rintro e w4 hoff
        obtain ⟨oA, on', oc, rfl, hk4, hdat⟩ := hoff.form
        have HDAT := Lib.hid hdat
        have HK4 := Lib.hid (HK3.out.trans hk4)
        have HS4 := Lib.hid (And.intro (cell_quiet HS3.out.1 hk4) (cell_quiet HS3.out.2 hk4))
        obtain ⟨ok, hok⟩ : ∃ ok, ok = (pr.heedP D5).isSome := ⟨_, rfl⟩
        rw [← hok]
        have HOKS := Lib.hid hok
        clear hoff hk4 hdat hok
        refine hK.out _ _ (fun _ => HS4.out) ?_
        clear hK K
        try simp only [Act.put, List.setIfInBounds_toArray, Nat.reduceAdd, List.getElem_toArray, List.getElem_cons_succ, List.getElem_cons_zero, List.set_cons_succ, List.set_cons_zero]
        refine wpAnyZ_take (i := 10) rfl (by kernel_rfl) (fun _ _ _ h => h) (Or.inl ⟨by rfl, by intro w hSw; obtain ⟨s0, s1⟩ := hSw; go_simp; try with_reducible rfl⟩) HS4.out ?_
        simp only [Act.put, List.setIfInBounds_toArray, List.getElem_toArray, List.getElem_cons_succ, List.getElem_cons_zero, List.set_cons_succ, List.set_cons_zero]
        refine wpAnyZ_take (i := 11) rfl (by kernel_rfl) (fun _ _ _ h => h) (Or.inl ⟨by rfl, by intro w hSw; obtain ⟨s0, s1⟩ := hSw; go_simp; try with_reducible rfl⟩) HS4.out ?_
        simp only [Act.put, List.setIfInBounds_toArray, List.getElem_toArray, List.getElem_cons_succ, List.getElem_cons_zero, List.set_cons_succ, List.set_cons_zero]
        refine wpAnyZ_take (i := 12) rfl (by kernel_rfl) (fun _ _ _ h => h) (Or.inl ⟨by rfl, by intro w hSw; obtain ⟨s0, s1⟩ := hSw; go_simp; try with_reducible rfl⟩) HS4.out ?_
        simp only [Act.put, List.setIfInBounds_toArray, List.getElem_toArray, List.getElem_cons_succ, List.getElem_cons_zero, List.set_cons_succ, List.set_cons_zero]
        refine wpAnyZ_take (i := 13) rfl (by kernel_rfl) (fun _ _ _ h => h) (Or.inl ⟨by rfl, by intro w hSw; obtain ⟨s0, s1⟩ := hSw; go_simp; try with_reducible rfl⟩) HS4.out ?_
        simp only [Act.put, List.setIfInBounds_toArray, List.getElem_toArray, List.getElem_cons_succ, List.getElem_cons_zero, List.set_cons_succ, List.set_cons_zero]
        refine wpAnyZ_one (i := 14) (by kernel_rfl) rfl (fun K hK => ?_)
        go_simp
        refine hK.out _ _ (fun h => absurd rfl h) ?_
        clear hK K
        refine wpAnyZ_done (by kernel_rfl) ?_ _
        have HE := Lib.hid (show Pure.nakedOne (rulesOf us) (optsOf ns) (t', D') = match pr.heedP D5 with | some d => (t', d) | none => (t', D') by
          rw [Pure.naked_for _ (fun r hr => HOKR.out r hr), HFND.out]
          dsimp only
          rw [← HPR.out]
          try (cases pr.heedP D5 <;> rfl))
        cases hh : pr.heedP D5 with
        | none =>
          have h1 : ok = false := by have := HOKS.out; rw [hh] at this; exact this
          subst h1
          have HE2 := Lib.hid (HE.out.trans (by rw [hh]))
          clear hh HE HDAT
          go_wp2_with fail
          go_roundw
          case rel => exact ⟨k + 1, by omega, by go_num, _, by rw [HQS.out]; exact naked_same _ _ _ k (t', D') HOK.out HE2.out, HRD.out.keeps (HK1.out.trans HK4.out)⟩
          case measure => simp [intOf] <;> omega
        | some d =>
          have h1 : ok = true := by have := HOKS.out; rw [hh] at this; exact this
          subst h1
          have HE2 := Lib.hid (HE.out.trans (by rw [hh]))
          obtain ⟨rfl, hrow⟩ := HDAT.out d hh
          have hR4 := HRD.out.keeps (HK1.out.trans HK4.out)
          have hfr := HRD.out.fresh (hrow.mono (G := fun b => wr.heap.size ≤ b) (fun b hb => Nat.le_trans HK13.out.size (Nat.le_trans HK3.out.size hb)))
          obtain ⟨⟨uc, hc0⟩, hf0, hput⟩ := hR4.put k (t', D') d oA oc HQK.out hfr
          have HPUT := Lib.hid hput
          clear hh HE HDAT hrow hR4 hfr hput
          go_wp2_with fail
          go_roundw
          case rel => exact ⟨k + 1, by omega, by go_num, qs.set k (.slice oA d.length oc, (t', d)), by rw [optsOf_set, HQS.out]; exact naked_new _ _ _ k (t', D') _ HOK.out HE2.out, HPUT.out⟩
          case measure => simp [intOf] <;> omega
    · have hkk : k = zs.length := by omega
      subst hkk
      have d1 : decide ((zs.length : Int) < (zs.length : Int)) = false := decide_eq_false (by omega)
      have d2 : decide (zs.length < zs.length) = false := decide_eq_false (by omega)
      go_wp2
      go_ret
      exact ⟨_, qs, rfl, by rw [HQS.out]; unfold nakedTo Pure.naked; rw [List.take_of_length_le (by simp), List.drop_of_length_le (by simp), List.append_nil], HRD.out⟩
end Go.Proofs.Ytjomcffhbaplcaa
/- The automaton's rows of numbers, what may be. -/
namespace Go.Proofs.Ytjomcffhbaplcaa
open Go.RowKit
theorem fsmStep_out {s e : Int} (h : ¬ (0 ≤ s ∧ s ≤ 9 ∧ 0 ≤ e ∧ e < 16)) : Pure.fsmStep s e = ([], s) := if_neg h
theorem fsmStep_in (s e : Nat) (hs : s < 10) (he : e < 16) : Pure.fsmStep s e = ((Pure.fsmAt s e).1, ((Pure.fsmAt s e).2 : Int)) := by
  unfold Pure.fsmStep
  rw [if_pos (by omega)]
  rfl
theorem act_other (m : Pure.Mach) (a : Nat) (h4 : a ≠ 4) (h5 : a ≠ 5) (h6 : a ≠ 6) (h9 : a ≠ 9) : m.act a = m := by
  unfold Pure.Mach.act
  rw [if_neg h4, if_neg h5, if_neg (by omega)]
theorem Row.ints_at {w : World} {F : Nat → Prop} {A : Option Addr} {c : Nat} {l : List Nat} (h : Row w F 1 (.slice A l.length c) l.length (ints l)) (k : Nat) (hk : k < l.length) :
    ∃ b off, A = some ⟨b, off, none⟩ ∧ F b ∧ w.cell? ⟨b, off + k, none⟩ = some (.int .i64 ((l.getD k 0 : Nat) : Int)) := by
  obtain ⟨b, off, e, hF, hc⟩ := h.cellAt (by omega)
  exact ⟨b, off, e, hF, hc k _ (Go.Proofs.Ytjomcffhbaplcaa.ints_at l k hk)⟩
def mayBe (t u : Int) : Prop := 1 ≤ t ∧ t ≤ 1000 ∧ 1 ≤ u ∧ u ≤ 1000
instance (t u : Int) : Decidable (mayBe t u) := by unfold mayBe; infer_instance
end Go.Proofs.Ytjomcffhbaplcaa
