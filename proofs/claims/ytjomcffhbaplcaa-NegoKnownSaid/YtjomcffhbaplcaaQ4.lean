/- The document's comparing of lists of options. -/
import Derived.Test.YtjomcffhbaplcaaQ3
import Derived.Test.YtjomcffhbaplcaaQ2
import Derived.Test.YtjomcffhbaplcaaQ1
import Derived.Laws.Rows
namespace Go.Proofs.Ytjomcffhbaplcaa
open Go.RowKit
theorem opt_quiet {w w' : World} {b off : Nat} {u : Value} (h : w.cell? ⟨b, off, none⟩ = some u) (k : Keeps nobody w w') : w'.cell? ⟨b, off, none⟩ = some u :=
  (World.cell?_of_block (w := w) (a := ⟨b, off, none⟩) (k.block b (cell_lt h) (fun x => x))).trans h
abbrev optsOf (ps : List (Value × Pure.Opt)) : List Pure.Opt := ps.map Prod.snd
set_option maxRecDepth 100000 in
set_option maxHeartbeats 4000000 in
theorem docopts_same (F G : Nat → Prop) (x y : Value) (ps qs : List (Value × Pure.Opt)) (w : World) (hx : ORow w F x ps) (hy : ORow w G y qs) :
    Calls Try.prog 13 #[x, y] w fun e w' => e = .returned (.bool (decide (optsOf ps = optsOf qs))) ∧ Keeps nobody w w' := by
  obtain ⟨A, cA, rfl, hc⟩ := hx.form
  obtain ⟨B, cB, rfl, hd⟩ := hy.form
  have hm := hx.out.2.1
  have hm2 := hy.out.2.1
  unfold maxLen at hm hm2
  have HX := Lib.hid hx
  have HY := Lib.hid hy
  clear hx hy
  by_cases hl : ps.length = qs.length
  · have e1 : ((ps.length : Int) != (qs.length : Int)) = false := by rw [hl]; simp
    have HL := Lib.hid hl
    rw [← hl] at HY ⊢
    rw [← hl] at e1
    clear hl hm2
    go_enter Try.func13, Try.ntmps13
    go_wp2
    clear e1
    go_loopw [5] (fun i wr => ∃ k : Nat, k ≤ ps.length ∧ i = .int .i64 (k : Int) ∧ (optsOf ps).take k = (optsOf qs).take k ∧ Keeps nobody w wr) (fun i _ => ps.length - (intOf i).toNat)
    case atStart => exact ⟨0, by omega, rfl, by simp, Keeps.refl _ _⟩
    case round =>
      obtain ⟨k, hk, rfl, hT, hK⟩ := hrel
      have HT := Lib.hid hT
      have HK := Lib.hid hK
      by_cases hkl : k < ps.length
      · have i0 : (0 : Int) ≤ (k : Int) := by omega
        have i1 : (k : Int) < (ps.length : Int) := by omega
        have hkq : k < qs.length := by have := HL.out; omega
        obtain ⟨p, o, A1, c1, s, la, rfl, hFp, x0, x1, hra, hpa⟩ := (HX.out.keeps hK (fun _ _ h => h)).pick k hkl
        obtain ⟨q, o2, A2, c2, t, lb, rfl, hGq, y0, y1, hrb, hqb⟩ := (HY.out.keeps hK (fun _ _ h => h)).pick k hkq
        have HRA := Lib.hid hra
        have HRB := Lib.hid hrb
        have HPA := Lib.hid hpa
        have HQB := Lib.hid hqb
        clear hT hK hra hrb hpa hqb
        go_upto_region 6 with fail
        refine wp_region_Z (fun w' => w'.cell? ⟨p, o + k * 2, none⟩ = some (.int .i64 s) ∧ w'.cell? ⟨p, o + k * 2 + 1, none⟩ = some (.slice A1 la.length c1) ∧ w'.cell? ⟨q, o2 + k * 2, none⟩ = some (.int .i64 t) ∧ w'.cell? ⟨q, o2 + k * 2 + 1, none⟩ = some (.slice A2 lb.length c2)) 9 10 rfl (by kernel_rfl) ⟨x0, x1, y0, y1⟩ (fun hHeld => ?_)
        refine wpAnyZ_take (i := 0) rfl (by kernel_rfl) (fun _ _ _ h => h) (Or.inl ⟨by rfl, by intro w hSw; obtain ⟨s0, s1, s2, s3⟩ := hSw; go_simp; try with_reducible rfl⟩) hHeld.out ?_
        simp only [Act.put, List.setIfInBounds_toArray, List.getElem_toArray, List.getElem_cons_zero, List.set_cons_succ, List.set_cons_zero]
        refine wpAnyZ_take (i := 1) rfl (by kernel_rfl) (fun _ _ _ h => h) (Or.inl ⟨by rfl, by intro w hSw; obtain ⟨s0, s1, s2, s3⟩ := hSw; go_simp; try with_reducible rfl⟩) hHeld.out ?_
        simp only [Act.put, List.setIfInBounds_toArray, List.getElem_toArray, List.getElem_cons_succ, List.getElem_cons_zero, List.set_cons_succ, List.set_cons_zero]
        refine wpAnyZ_take (i := 2) rfl (by kernel_rfl) (fun _ _ _ h => h) (Or.inl ⟨by rfl, by intro w hSw; obtain ⟨s0, s1, s2, s3⟩ := hSw; go_simp; try with_reducible rfl⟩) hHeld.out ?_
        simp only [Act.put, List.setIfInBounds_toArray, List.getElem_toArray, List.getElem_cons_succ, List.getElem_cons_zero, List.set_cons_succ, List.set_cons_zero]
        refine wpAnyZ_take (i := 3) rfl (by kernel_rfl) (fun _ _ _ h => h) (Or.inl ⟨by rfl, by intro w hSw; obtain ⟨s0, s1, s2, s3⟩ := hSw; go_simp; try with_reducible rfl⟩) hHeld.out ?_
        simp only [Act.put, List.setIfInBounds_toArray, List.getElem_toArray, List.getElem_cons_succ, List.getElem_cons_zero, List.set_cons_succ, List.set_cons_zero]
        refine wpAnyZ_take (i := 4) rfl (by kernel_rfl) (fun _ _ _ h => h) (Or.inl ⟨by rfl, by intro w hSw; obtain ⟨s0, s1, s2, s3⟩ := hSw; go_simp; try with_reducible rfl⟩) hHeld.out ?_
        simp only [Act.put, List.setIfInBounds_toArray, List.getElem_toArray, List.getElem_cons_succ, List.getElem_cons_zero, List.set_cons_succ, List.set_cons_zero]
        refine wpAnyZ_take (i := 5) rfl (by kernel_rfl) (fun _ _ _ h => h) (Or.inl ⟨by rfl, by intro w hSw; obtain ⟨s0, s1, s2, s3⟩ := hSw; go_simp; try with_reducible rfl⟩) hHeld.out ?_
        simp only [Act.put, List.setIfInBounds_toArray, List.getElem_toArray, List.getElem_cons_succ, List.getElem_cons_zero, List.set_cons_succ, List.set_cons_zero]
        refine wpAnyZ_take (i := 6) rfl (by kernel_rfl) (fun _ _ _ h => h) (Or.inl ⟨by rfl, by intro w hSw; obtain ⟨s0, s1, s2, s3⟩ := hSw; go_simp; try with_reducible rfl⟩) hHeld.out ?_
        simp only [Act.put, List.setIfInBounds_toArray, List.getElem_toArray, List.getElem_cons_succ, List.getElem_cons_zero, List.set_cons_succ, List.set_cons_zero]
        refine wpAnyZ_take (i := 7) rfl (by kernel_rfl) (fun _ _ _ h => h) (Or.inl ⟨by rfl, by intro w hSw; obtain ⟨s0, s1, s2, s3⟩ := hSw; go_simp; try with_reducible rfl⟩) hHeld.out ?_
        simp only [Act.put, List.setIfInBounds_toArray, List.getElem_toArray, List.getElem_cons_succ, List.getElem_cons_zero, List.set_cons_succ, List.set_cons_zero]
        refine wpAnyZ_one (i := 8) (by kernel_rfl) rfl (fun K hK => ?_)
        go_simp
        have hwd : Keeps nobody wr wr.drew := (Keeps.refl _ wr).drew
        refine (docone_any F G (.slice A1 la.length c1) (.slice A2 lb.length c2) (s, la) (t, lb) wr.drew (HRA.out.keeps hwd (fun _ _ h => h)) (HRB.out.keeps hwd (fun _ _ h => h))).mono ?_
        rintro e w2 ⟨rfl, hk2⟩
        have hk2 : Keeps nobody wr w2 := hwd.trans hk2
        have HH2 := Lib.hid (show w2.cell? ⟨p, o + k * 2, none⟩ = some (.int .i64 s) ∧ w2.cell? ⟨p, o + k * 2 + 1, none⟩ = some (.slice A1 la.length c1) ∧ w2.cell? ⟨q, o2 + k * 2, none⟩ = some (.int .i64 t) ∧ w2.cell? ⟨q, o2 + k * 2 + 1, none⟩ = some (.slice A2 lb.length c2) from
          ⟨opt_quiet x0 hk2, opt_quiet x1 hk2, opt_quiet y0 hk2, opt_quiet y1 hk2⟩)
        refine hK.out _ _ (fun _ => HH2.out) ?_
        have HK2 := Lib.hid (HK.out.trans hk2)
        obtain ⟨r, hr⟩ : ∃ r, r = decide ((s, la) = (t, lb)) := ⟨_, rfl⟩
        rw [← hr]
        have HRr := Lib.hid hr
        clear hK K hHeld hwd hk2 hr x0 x1 y0 y1 HK
        refine wpAnyZ_one (i := 9) (by kernel_rfl) rfl (fun K hK => ?_)
        go_simp
        refine hK.out _ _ (fun _ => HH2.out) ?_
        clear hK K
        refine wpAnyZ_done (by kernel_rfl) ?_ _
        have hps : (optsOf ps)[k]? = some (s, la) := by rw [List.getElem?_map, HPA.out]; rfl
        have hqs : (optsOf qs)[k]? = some (t, lb) := by rw [List.getElem?_map, HQB.out]; rfl
        cases r
        · have hno : decide (optsOf ps = optsOf qs) = false := by
            rw [decide_eq_false_iff_not]
            intro he
            rw [he, hqs] at hps
            injection hps with hps
            have := HRr.out
            rw [hps] at this
            simp at this
          have HNO := Lib.hid hno
          clear hno hps hqs
          go_wp2
          go_ret
          exact ⟨by rw [HNO.out]; rfl, HK2.out⟩
        · have hyes : (s, la) = (t, lb) := of_decide_eq_true HRr.out.symm
          have hTk : (optsOf ps).take (k + 1) = (optsOf qs).take (k + 1) := by
            rw [List.take_succ_eq_append_getElem (by simpa using hkl), List.take_succ_eq_append_getElem (by simpa using hkq), HT.out]
            congr 1
            have e1 : (optsOf ps)[k]'(by simpa using hkl) = (s, la) := by
              have := List.getElem?_eq_getElem (l := optsOf ps) (i := k) (by simpa using hkl)
              rw [hps] at this
              injection this with this
              exact this.symm
            have e2 : (optsOf qs)[k]'(by simpa using hkq) = (t, lb) := by
              have := List.getElem?_eq_getElem (l := optsOf qs) (i := k) (by simpa using hkq)
              rw [hqs] at this
              injection this with this
              exact this.symm
            rw [e1, e2, hyes]
          have HTk := Lib.hid hTk
          clear hyes hTk hps hqs HT
          go_wp2_with fail
          go_roundw
          case rel => exact ⟨k + 1, by omega, by go_num, HTk.out, HK2.out⟩
          case measure => simp [intOf]; omega
      · have hkk : k = ps.length := by omega
        have hyes : decide (optsOf ps = optsOf qs) = true := by
          rw [decide_eq_true_eq]
          have h := HT.out
          rw [List.take_of_length_le (by simp; omega), List.take_of_length_le (by simp; have := HL.out; omega)] at h
          exact h
        have HYES := Lib.hid hyes
        subst hkk
        clear hyes hT hK hkl hk HT
        go_wp2
        go_ret
        exact ⟨by rw [HYES.out]; rfl, HK.out⟩
  · have e1 : ((ps.length : Int) != (qs.length : Int)) = true := by rw [bne_iff_ne]; omega
    have hno : decide (optsOf ps = optsOf qs) = false := by
      rw [decide_eq_false_iff_not]
      intro he
      have := congrArg List.length he
      simp at this
      exact hl this
    have HNO := Lib.hid hno
    clear hno hl
    go_enter Try.func13, Try.ntmps13
    go_wp2
    go_ret
    exact ⟨by rw [HNO.out]; rfl, Keeps.refl _ _⟩
end Go.Proofs.Ytjomcffhbaplcaa
/- append to own rows of bytes; rows of bytes that were just made. -/
namespace Go.Proofs.Ytjomcffhbaplcaa
open Go.RowKit

/-- Bytes that were just made. -/
theorem row_new (w : World) (l : List UInt8) (cs : Array Value) (n : Nat) (hc : cs = (u8s l).toArray) (hn : n = l.length) (hl : l.length ≤ 100000) : Row (w.alloc (.cells cs 5)) (fun b => b = w.heap.size) 1 (.slice (some ⟨w.heap.size, 0, none⟩) n n) l.length (u8s l) := by
  subst hc hn
  exact Row.block (Blk.new w 5 (u8s l).toArray) rfl (by simp) (by unfold maxLen; omega) (Nat.le_refl _)

section
variable {w : World} {ops : Array Oper} {rest : List Oper} {o : Oper} {a : Act} {Q : Exit → Act → World → Prop}
theorem wp_append_u8 (hgd : o.guard = none) (s x : Operand) (ho : o.op = .call { callee := .builtin .append, args := #[s, x], argTypes := #[30, 30] })
    (base : Nat) (v : Value) (n : Nat) (l : List UInt8) (hn : l.length = n) (hs : a.eval s = v) (hown : w.ownsRow base 5 1 v n (u8s l))
    (F : Nat → Prop) (y : Value) (m : List UInt8) (hx : a.eval x = y) (hr : Row w F 1 y m.length (u8s m)) (hlen : n + m.length ≤ 140737488355328) (hbase : base ≤ w.heap.size)
    (h : ∀ v' w', w'.ownsRow base 5 1 v' (l ++ m).length (u8s (l ++ m)) → w.grownBy w' v.ownBlock → (v'.ownBlock = v.ownBlock ∨ v'.ownBlock = some w.heap.size) → wpList Try.prog ops Q rest (a.put o.dst v') w') :
    wpList Try.prog ops Q (o :: rest) a w := by
  obtain ⟨i0, hi0, hz0, hz1, hz2⟩ := info_parts u8_info
  subst hn
  refine wpList_append_row hgd s x _ ho base 5 i0 _ 1 1 Try.underlying30 hi0 hz0 hz1 hz2 rfl (by omega) v _ (u8s l) hs hown F y m.length (u8s m) hx hr (u8s_cells m) (by simp only [maxLen]; omega) (by omega) hbase ?_
  intro v' w' h1 h2 h3
  refine h v' w' ?_ h2 h3
  rw [List.length_append]
  simpa using h1

theorem wpo_append_u8 {K : Act → World → Prop} (s x : Operand) (ho : o.op = .call { callee := .builtin .append, args := #[s, x], argTypes := #[30, 30] })
    (base : Nat) (v : Value) (n : Nat) (l : List UInt8) (hn : l.length = n) (hs : a.eval s = v) (hown : w.ownsRow base 5 1 v n (u8s l))
    (F : Nat → Prop) (y : Value) (m : List UInt8) (hx : a.eval x = y) (hr : Row w F 1 y m.length (u8s m)) (hlen : n + m.length ≤ 140737488355328) (hbase : base ≤ w.heap.size)
    (h : ∀ v' w', w'.ownsRow base 5 1 v' (l ++ m).length (u8s (l ++ m)) → w.grownBy w' v.ownBlock → (v'.ownBlock = v.ownBlock ∨ v'.ownBlock = some w.heap.size) → K (a.put o.dst v') w') :
    o.wp Try.prog a w K Q := by
  obtain ⟨i0, hi0, hz0, hz1, hz2⟩ := info_parts u8_info
  subst hn
  refine wp_append_row s x _ ho base 5 i0 _ 1 1 Try.underlying30 hi0 hz0 hz1 hz2 rfl (by omega) v _ (u8s l) hs hown F y m.length (u8s m) hx hr (u8s_cells m) (by simp only [maxLen]; omega) (by omega) hbase ?_
  intro v' w' h1 h2 h3
  refine h v' w' ?_ h2 h3
  rw [List.length_append]
  simpa using h1

end
theorem Row.strong {w : World} {F : Nat → Prop} {v : Value} {n : Nat} {xs : List Value} (h : Row w F 1 v n xs) : Row w (fun b => F b ∧ b < w.heap.size) 1 v n xs := by
  obtain ⟨h1, h0, A, c, h2, h3, h4, h5⟩ := h
  refine ⟨h1, h0, A, c, h2, h3, h4, fun hn => ?_⟩
  obtain ⟨b, off, e, f, g⟩ := h5 hn
  refine ⟨b, off, e, ⟨f, ?_⟩, g⟩
  exact cell_lt (g 0 xs[0] (List.getElem?_eq_getElem (by omega)))
theorem Row.one {w : World} {F : Nat → Prop} {v : Value} {n : Nat} {xs : List Value} (h : Row w F 1 v n xs) : v.oneCell' = true := by
  obtain ⟨_, _, A, c, rfl, _⟩ := h
  rfl
theorem own_grown {w w' : World} {base : Nat} {e : TypeId} {size : Nat} {v : Value} {n : Nat} {xs : List Value} {row : Option Nat} (h : w.ownsRow base e size v n xs) (hg : w.grownBy w' row) (hr : ∀ b, v.ownBlock = some b → row ≠ some b) : w'.ownsRow base e size v n xs :=
  ownsRow_keeps h ((Keeps.refl (fun b => row = some b) w).grown hg (fun _ e _ => e)) (fun b hb e => hr b hb e)
theorem own_store {w : World} {base g i : Nat} {e : TypeId} {size : Nat} {v u : Value} {n : Nat} {xs : List Value} (h : w.ownsRow base e size v n xs) (hg : v.ownBlock ≠ some g) : (w.setCell ⟨g, i, none⟩ u).ownsRow base e size v n xs :=
  ownsRow_keeps h ((Keeps.refl (only g) w).store g i (fun _ => only_self g) u) (fun b hb e => hg (by have e : b = g := e; rw [← e]; exact hb))
end Go.Proofs.Ytjomcffhbaplcaa
/- Options that were read. -/
namespace Go.Proofs.Ytjomcffhbaplcaa
open Go.RowKit
theorem opt_later {w : World} {o : Obj} {a : Addr} {v : Value} (h : w.cell? a = some v) : (w.alloc o).cell? a = some v :=
  (World.cell?_alloc_lt w o a (by rcases Nat.lt_or_ge a.block w.heap.size with hl | hg; exact hl; simp [World.cell?, Array.getElem?_eq_none hg] at h)).trans h
theorem ojoined_snoc (l : List Pure.Opt) (o : Pure.Opt) : Pure.joined (l ++ [o]) = Pure.joined l ++ Pure.Opt.bytes o := by simp [Pure.joined]
theorem opt_take (l : List Pure.Opt) (k : Nat) (o : Pure.Opt) (h : l[k]? = some o) : l.take (k + 1) = l.take k ++ [o] := by
  have hk := (List.getElem?_eq_some_iff.1 h).1
  rw [List.take_succ_eq_append_getElem hk]
  rw [List.getElem?_eq_getElem hk] at h
  injection h with h
  rw [h]
theorem opt_info : (Try.prog.info? 32).map (fun i => (i.zero, i.size, i.bytes)) = some (some (.agg #[.int .i64 0, .slice none 0 0]), 2, 32) := by kernel_rfl
theorem optCells_one (ps : List (Value × Pure.Opt)) (h : ∀ p ∈ ps, p.1.oneCell' = true) : ∀ u ∈ optCells ps, u.oneCell' = true := by
  intro u hu
  obtain ⟨p, hp, hu⟩ := List.mem_flatMap.1 hu
  simp at hu
  rcases hu with rfl | rfl
  · rfl
  · exact h p hp
/-- Options that were read: their row, and where their bytes lie. -/
structure Read (w0 w : World) (v : Value) (ps : List (Value × Pure.Opt)) : Prop where
  own : w.ownsRow w0.heap.size 32 2 v ps.length (optCells ps)
  rows : ∀ p ∈ ps, Row w (fun b => w0.heap.size ≤ b ∧ v.ownBlock ≠ some b ∧ b < w.heap.size) 1 p.1 p.2.2.length (u8s p.2.2)
  below : Below w0.heap.size w0 w
end Go.Proofs.Ytjomcffhbaplcaa
/- A result in a boxed struct beside a plain one. -/
namespace Go.Proofs.Ytjomcffhbaplcaa
open Go.RowKit
theorem results_row_tmp {P : Program} {fn : Func} {p u : Tmp} {ty : TypeId} (h : fn.results = #[.cell p ty, .tmp u]) (tmps : Array Value) (w : World) (g : Nat) (t : TypeId) (cs : Array Value) (fr : Nat × Nat) (d : TypeDesc)
    (hp : tmps.getD p undef = .pointer (some ⟨g, 0, none⟩)) (hg : w.heap[g]? = some (.cells cs t fr))
    (hu : P.underlying ty = some d) (hd : (match d with | .struct _ | .array _ _ => true | _ => false) = true) (hi : (P.info? ty).map (·.size) = some cs.size) :
    (results fn tmps).run P w = .ok (.tuple #[.agg cs, tmps.getD u undef]) w := by
  have hp' : tmps[p]?.getD undef = .pointer (some ⟨g, 0, none⟩) := by simpa using hp
  simp [results, h, hp', asAddr, run_loadVar_row w g t ty cs fr d hg hu hd hi, Result.andThen]
theorem cell_quiet {w w' : World} {b off : Nat} {u : Value} (h : w.cell? ⟨b, off, none⟩ = some u) (k : Keeps nobody w w') : w'.cell? ⟨b, off, none⟩ = some u :=
  (World.cell?_of_block (w := w) (a := ⟨b, off, none⟩) (k.block b (cell_lt h) (fun x => x))).trans h
end Go.Proofs.Ytjomcffhbaplcaa
/- Options that are read one by one: append. -/
namespace Go.Proofs.Ytjomcffhbaplcaa
open Go.RowKit
theorem Read.keeps {w0 w w' : World} {v : Value} {qs : List (Value × Pure.Opt)} (h : Read w0 w v qs) (k : Keeps nobody w w') : Read w0 w' v qs :=
  ⟨ownsRow_keeps h.own k (fun _ _ h => h), fun p hp => ((h.rows p hp).keeps k (fun _ _ h => h)).mono (fun _ hb => ⟨hb.1, hb.2.1, Nat.lt_of_lt_of_le hb.2.2 k.size⟩), Below.quiet h.below k h.below.size⟩
theorem Read.nil (w : World) : Read w w (.slice none 0 0) [] := ⟨World.ownsRow_nil _ _ _ _, by simp, Below.refl _ _⟩
theorem Read.row {w0 w : World} {v : Value} {ps : List (Value × Pure.Opt)} (h : Read w0 w v ps) : ORow w (fun b => w0.heap.size ≤ b) v ps :=
  ⟨(Row.of_own h.own).mono (fun b hb => ownsRow_ge h.own b hb), fun p hp => (h.rows p hp).mono (fun _ hb => hb.1)⟩
theorem Read.form {w0 w : World} {v : Value} {ps : List (Value × Pure.Opt)} (h : Read w0 w v ps) : ∃ A c, v = .slice A ps.length c := own_form h.own
/-- A new row of bytes, seen from a list that was there. -/
theorem Read.fresh {w0 w w' : World} {v d : Value} {qs : List (Value × Pure.Opt)} {n : Nat} {xs : List Value} (h : Read w0 w v qs) (hd : Row w' (fun b => w.heap.size ≤ b) 1 d n xs) :
    Row w' (fun b => w0.heap.size ≤ b ∧ v.ownBlock ≠ some b ∧ b < w'.heap.size) 1 d n xs := by
  obtain ⟨h1, h0, A, c, h2, h3, h4, h5⟩ := hd
  refine ⟨h1, h0, A, c, h2, h3, h4, fun hn => ?_⟩
  obtain ⟨b, off, e, f, g⟩ := h5 hn
  have hl : 0 < xs.length := by rw [h1]; omega
  have hlt := cell_lt (g 0 _ (List.getElem?_eq_getElem hl))
  exact ⟨b, off, e, ⟨by have := h.below.size; omega, fun e => by have := ownsRow_lt h.own b e; omega, hlt⟩, g⟩
section
variable {w0 w : World} {o : Oper} {a : Act} {Q : Exit → Act → World → Prop}
theorem wpo_append_opt {K : Act → World → Prop} (s x : Operand) (ho : o.op = .call { callee := .builtin .append, args := #[s, x], argTypes := #[27, 27] })
    (v : Value) (qs : List (Value × Pure.Opt)) (A3 : Option Addr) (c3 : Nat) (t : Int) (D : List UInt8) (hs : a.eval s = v) (hx : a.eval x = .slice (some ⟨w.heap.size, 0, none⟩) 1 1) (hR : Read w0 w v qs) (hq : qs.length ≤ 1000000)
    (hd : Row w (fun b => w0.heap.size ≤ b ∧ v.ownBlock ≠ some b ∧ b < w.heap.size) 1 (.slice A3 D.length c3) D.length (u8s D))
    (h : ∀ A c w', Read w0 w' (.slice A (qs.length + 1) c) (qs ++ [(.slice A3 D.length c3, (t, D))]) → Keeps (fun b => v.ownBlock = some b) w w' → K (a.put o.dst (.slice A (qs.length + 1) c)) w') :
    o.wp Try.prog a (w.alloc (.cells #[.int .i64 t, .slice A3 D.length c3] 32)) K Q := by
  obtain ⟨i0, hi0, hz0, hz1, hz2⟩ := info_parts opt_info
  obtain ⟨wb, hwb⟩ : ∃ wb, wb = w.alloc (.cells (optCells [(.slice A3 D.length c3, (t, D))]).toArray 32) := ⟨_, rfl⟩
  have hwb' : w.alloc (.cells #[.int .i64 t, .slice A3 D.length c3] 32) = wb := hwb.symm
  rw [hwb']
  have hkb : Keeps nobody w wb := by rw [hwb]; exact (Keeps.refl _ w).alloc _
  have hbb : Blk wb w.heap.size 32 (optCells [(.slice A3 D.length c3, (t, D))]).toArray := by rw [hwb]; exact Blk.new w _ _
  have hrb : Row wb (fun b => b = w.heap.size) 2 (.slice (some ⟨w.heap.size, 0, none⟩) 1 1) 1 (optCells [(.slice A3 D.length c3, (t, D))]) := by
    have h := Row.block (F := fun b => b = w.heap.size) (n := 1) (c := 1) (size := 2) hbb rfl rfl (by unfold maxLen; omega) (Nat.le_refl _)
    exact h
  have hownb : wb.ownsRow w0.heap.size 32 2 v qs.length (optCells qs) := ownsRow_keeps hR.own hkb (fun _ _ h => h)
  have hBb : Below w0.heap.size w0 wb := Below.quiet hR.below hkb hR.below.size
  have hone : ∀ p ∈ ([(.slice A3 D.length c3, (t, D))] : List (Value × Pure.Opt)), p.1.oneCell' = true := by
    intro p hp
    simp at hp
    subst hp
    rfl
  refine wp_append_row s x _ ho w0.heap.size 32 i0 _ 2 32 Try.underlying27 hi0 hz0 hz1 hz2 rfl (by omega) v _ (optCells qs) hs hownb _ _ 1 (optCells [(.slice A3 D.length c3, (t, D))]) hx hrb (optCells_one _ hone) (by unfold maxLen; omega) (by omega) hBb.size ?_
  intro v3 w3 hown3 hg3 hat3
  have hcat : optCells qs ++ optCells [(.slice A3 D.length c3, (t, D))] = optCells (qs ++ [(.slice A3 D.length c3, (t, D))]) := by simp [optCells]
  rw [hcat] at hown3
  have hkw : Keeps (fun b => v.ownBlock = some b) wb w3 := (Keeps.refl _ wb).grown hg3 (fun k hk _ => hk)
  have hwbs : w.heap.size < wb.heap.size := by rw [hwb]; simp
  have hread : Read w0 w3 v3 (qs ++ [(.slice A3 D.length c3, (t, D))]) := by
    refine ⟨by rw [List.length_append]; exact hown3, fun p hp => ?_, hBb.grown hg3 hBb.size (fun k hk => ownsRow_ge hownb k hk)⟩
    have hrow : Row w (fun b => w0.heap.size ≤ b ∧ v.ownBlock ≠ some b ∧ b < w.heap.size) 1 p.1 p.2.2.length (u8s p.2.2) := by
      rcases List.mem_append.1 hp with hp | hp
      · exact hR.rows p hp
      · simp at hp
        subst hp
        exact hd
    have h1 := (hrow.keeps hkb (fun _ _ h => h)).keeps hkw (fun b hb => hb.2.1)
    refine h1.mono (fun b hb => ⟨hb.1, ?_, by have := hkw.size; omega⟩)
    rcases hat3 with e | e
    · rw [e]; exact hb.2.1
    · rw [e]; intro h; injection h with h; omega
  obtain ⟨A4, c4, rfl⟩ := own_form hown3
  refine h A4 c4 w3 hread ?_
  exact (hkb.mono (fun _ h => h.elim)).trans hkw
theorem wp_append_opt {ops : Array Oper} {rest : List Oper} (hgd : o.guard = none) (s x : Operand) (ho : o.op = .call { callee := .builtin .append, args := #[s, x], argTypes := #[27, 27] })
    (v : Value) (qs : List (Value × Pure.Opt)) (A3 : Option Addr) (c3 : Nat) (t : Int) (D : List UInt8) (hs : a.eval s = v) (hx : a.eval x = .slice (some ⟨w.heap.size, 0, none⟩) 1 1) (hR : Read w0 w v qs) (hq : qs.length ≤ 1000000)
    (hd : Row w (fun b => w0.heap.size ≤ b ∧ v.ownBlock ≠ some b ∧ b < w.heap.size) 1 (.slice A3 D.length c3) D.length (u8s D))
    (h : ∀ A c w', Read w0 w' (.slice A (qs.length + 1) c) (qs ++ [(.slice A3 D.length c3, (t, D))]) → Keeps (fun b => v.ownBlock = some b) w w' → wpList Try.prog ops Q rest (a.put o.dst (.slice A (qs.length + 1) c)) w') :
    wpList Try.prog ops Q (o :: rest) a (w.alloc (.cells #[.int .i64 t, .slice A3 D.length c3] 32)) :=
  wpList_plain hgd fun _ hK => wpo_append_opt s x ho v qs A3 c3 t D hs hx hR hq hd fun A c w' h2 h3 => hK _ _ (h A c w' h2 h3)
end
/-- A list that make lays: as yet empty. -/
theorem made_read (w : World) (n : Nat) (hn : n ≤ 1000000) : ∃ cs, (Instr.makeSlice 27 (.int .i64 0) (.int .i64 (n : Int))).run Try.prog w = .ok (.slice (some ⟨w.heap.size, 0, none⟩) 0 n) (w.alloc (.cells cs 32)) ∧
    Read w (w.alloc (.cells cs 32)) (.slice (some ⟨w.heap.size, 0, none⟩) 0 n) [] := by
  obtain ⟨i0, hi0, hz0, hz1, hz2⟩ := info_parts opt_info
  have hrun := run_make (P := Try.prog) w 27 32 i0 _ Try.underlying27 hi0 hz0 .i64 .i64 0 n (by omega) (by omega) (by rw [hz2]; omega) (by omega)
  rw [hz1, Int.toNat_natCast, show Int.toNat 0 = 0 from rfl] at hrun
  refine ⟨_, hrun, ⟨⟨by simp, .inr ⟨w.heap.size, n, _, rfl, Nat.le_refl _, Blk.new w _ _, by simp, by unfold maxLen; omega, by simp [madeCells], by simp⟩⟩, by simp, ?_⟩⟩
  exact Keeps.to_below ((Keeps.refl _ w).alloc _)
end Go.Proofs.Ytjomcffhbaplcaa
