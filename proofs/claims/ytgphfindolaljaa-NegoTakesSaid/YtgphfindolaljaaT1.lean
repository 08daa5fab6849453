/- What chapter 13 says of rules, of judging options and of changing a request. Nothing of the program. -/
import Derived.Test.YtgphfindolaljaaC12
namespace Go.Proofs.Ytgphfindolaljaa
set_option maxRecDepth 100000
set_option maxHeartbeats 8000000
open _root_.Go.Lib renaming hid → xhd
open List renaming setIfInBounds_toArray → xqA, getElem_toArray → xqB, getElem_cons_succ → xqC, getElem_cons_zero → xqD, set_cons_succ → xqE, set_cons_zero → xqF
namespace Pure
def nakedOne (rules : List Rule) (nak : List Opt) (o : Opt) : Opt :=
 match nak.find? (fun p => decide (p.1 = o.1)) with
 | none => o
 | some p =>
  match ruleOf rules o.1 with
  | none => o
  | some r =>
   if r.how = 1 then (o.1, p.2)
   else if r.how = 2 ∧ r.numbered p.2 then (o.1, wide (min (max (bnum p.2) r.lo.toNat) r.hi.toNat) r.len.toNat)
   else if r.how = 4 ∧ r.numbered p.2 then (o.1, wide (bnum p.2 &&& r.hi.toNat) r.len.toNat)
   else o
def naked (rules : List Rule) (ask nak : List Opt) : List Opt := ask.map (nakedOne rules nak)
end Pure
open Go.RowKit
theorem y3p (F : Nat → Prop) (x : Value) (ps : List (Value × Pure.Opt)) (n : Nat) (cap : Value) (p : Pure.Opt → Bool) (w : World) (hx : ORow w F x ps) (hn : ∀ args w, Sem.run Try.prog (callFunc n args) w = .ok (.enter n args) w)
  (hf : ∀ q ∈ ps, ∀ w', Keeps y02 w w' → Calls Try.prog n #[optV q, cap] w' fun e w'' => e = .returned (.bool (p q.2)) ∧ Keeps y02 w' w'') :
  Calls Try.prog 57 #[x, .func (.func n) #[] #[cap]] w fun e w' => e = .returned (.bool ((y01 ps).any p)) ∧ Keeps y02 w w' := by
 have HI := xhd (y2n F x ps n cap p w hx hn hf)
 clear hx hf hn
 go_enter Try.func57, Try.ntmps57
 go_wp2_with fail
 refine HI.out.mono ?_
 rintro e w1 ⟨i, rfl, hp, hk⟩
 have HA := xhd hp.any
 have HK := xhd hk
 clear hp hk HI
 go_wp2_with fail
 go_ret
 exact ⟨by rw [← HA.out]; rfl, HK.out⟩
theorem run_has1 (args : Array Value) (w : World) : Sem.run Try.prog (callFunc 58 args) w = .ok (.enter 58 args) w := y31 Try.func58 (by kernel_rfl) rfl args w
theorem has1_any (F G : Nat → Prop) (q o : Value × Pure.Opt) (g : Nat) (w : World) (h0 : w.cell? ⟨g, 0, none⟩ = some (.int .i64 o.2.1)) (h1 : w.cell? ⟨g, 1, none⟩ = some o.1)
  (hq : Row w F 1 q.1 q.2.2.length (u8s q.2.2)) (ho : Row w G 1 o.1 o.2.2.length (u8s o.2.2)) :
  Calls Try.prog 58 #[optV q, .pointer (some ⟨g, 0, none⟩)] w fun e w' => e = .returned (.bool (decide (o.2 = q.2))) ∧ Keeps y02 w w' := by
 obtain ⟨v, s, l⟩ := q
 obtain ⟨u, t, k⟩ := o
 dsimp only at hq ho h0 h1 ⊢
 obtain ⟨A, c, rfl, _⟩ := hq.form
 obtain ⟨B, d, rfl, _⟩ := ho.form
 have hk := (Keeps.refl y02 w).alloc (.cells #[.int .i64 s, .slice A l.length c] 40)
 have hg0 := y0a h0 hk
 have hg1 := y0a h1 hk
 have HK := xhd hk
 by_cases hst : s = t
 ·subst hst
  have HE := xhd (y3y F G (.slice A l.length c) (.slice B k.length d) _ _ l k _ (hq.keeps hk (fun _ _ h => h)) (ho.keeps hk (fun _ _ h => h)))
  have HD := xhd (show decide ((s, k) = (s, l)) = decide (l = k) from decide_eq_decide.2 ⟨fun h => by injection h with _ h; exact h.symm, fun h => by rw [h]⟩)
  have e1 : (s == s) = true := beq_self_eq_true s
  clear hq ho h0 h1 hk
  go_enter Try.func58, Try.ntmps58
  go_wp2_with fail
  refine HE.out.mono ?_
  rintro e w1 ⟨rfl, rfl⟩
  go_wp2_with fail
  go_ret
  exact ⟨by rw [HD.out]; rfl, HK.out⟩
 ·have e1 : (s == t) = false := by rw [beq_eq_false_iff_ne]; exact hst
  have HD := xhd (show decide ((t, k) = (s, l)) = false from decide_eq_false (fun h => by injection h with h _; exact hst h.symm))
  clear hq ho h0 h1 hk hst
  go_enter Try.func58, Try.ntmps58
  go_wp2_with fail
  go_ret
  exact ⟨by rw [HD.out]; rfl, HK.out⟩
theorem has_any (F G : Nat → Prop) (x : Value) (ps : List (Value × Pure.Opt)) (o : Value × Pure.Opt) (w : World) (hx : ORow w F x ps) (ho : Row w G 1 o.1 o.2.2.length (u8s o.2.2)) :
  Calls Try.prog 37 #[x, optV o] w fun e w' => e = .returned (.bool ((y01 ps).any fun z => decide (o.2 = z))) ∧ Keeps y02 w w' := by
 obtain ⟨u, t, k⟩ := o
 have hk := (Keeps.refl y02 w).alloc (.cells #[.int .i64 t, u] 40)
 have hb := Blk.new w 40 #[.int .i64 t, u]
 have h0 : (w.alloc (.cells #[.int .i64 t, u] 40)).cell? ⟨w.heap.size, 0, none⟩ = some (.int .i64 t) := by rw [hb.cell]; rfl
 have h1 : (w.alloc (.cells #[.int .i64 t, u] 40)).cell? ⟨w.heap.size, 1, none⟩ = some u := by rw [hb.cell]; rfl
 have hx1 := hx.keeps hk (fun _ _ h => h)
 have ho1 := ho.keeps hk (fun _ _ h => h)
 have HI := xhd (y3p F x ps 58 (.pointer (some ⟨w.heap.size, 0, none⟩)) (fun z => decide ((t, k) = z)) (w.alloc (.cells #[.int .i64 t, u] 40)) hx1 run_has1
  (fun q hq w' kk => has1_any F G q (u, (t, k)) _ w' (y0a h0 kk) (y0a h1 kk) ((hx1.rows q hq).keeps kk (fun _ _ h => h)) (ho1.keeps kk (fun _ _ h => h))))
 have HK := xhd hk
 dsimp only at HI ⊢
 obtain ⟨b, hbe⟩ : ∃ b, b = (y01 ps).any (fun z => decide ((t, k) = z)) := ⟨_, rfl⟩
 rw [← hbe] at HI ⊢
 clear hx ho hk hb h0 h1 hx1 ho1 hbe
 go_enter Try.func37, Try.ntmps37
 go_wp2_with fail
 refine HI.out.mono ?_
 rintro e w1 ⟨rfl, hk⟩
 have HK1 := xhd (HK.out.trans hk)
 clear hk HI HK
 go_wp2_with fail
 go_ret
 exact ⟨rfl, HK1.out⟩
namespace Pure
def Rule.heedP (r : Rule) (b : List UInt8) : Option (List UInt8) :=
 if r.how = 1 then some b else if (r.how = 2 ∨ r.how = 4) ∧ r.numbered b then some (wide (r.nearTo (bnum b)) r.len.toNat) else none
end Pure
theorem heed_num (F : Nat → Prop) (v x : Value) (r : Pure.Rule) (l : List UInt8) (w : World) (hr : Row w F 1 x l.length (u8s l)) (h24 : r.how = 2 ∨ r.how = 4) (hM : r.Ok) :
  Calls Try.prog 32 #[y0g (v, r), x] w fun e w' => Offs w e w' (r.heedP l) := by
 obtain ⟨A, c, rfl, _⟩ := hr.form
 have hb := Blk.new w 58 (y04 (v, r)).toArray
 have hk0 := (Keeps.refl y02 w).alloc (.cells (y04 (v, r)).toArray 58)
 have HK0 := xhd hk0
 have HC0 := xhd (fun j u (h : (y04 (v, r))[j]? = some u) => show (w.alloc (.cells (y04 (v, r)).toArray 58)).cell? ⟨w.heap.size, j, none⟩ = some u by rw [hb.cell, List.getElem?_toArray]; exact h)
 have q1 : (r.how == 1) = false := by rw [beq_eq_false_iff_ne]; omega
 have H24 := xhd h24
 have h24 : (r.how == 2) = true ∨ ((r.how == 2) = false ∧ (r.how == 4) = true) := by
  rcases h24 with h | h
  ·exact .inl (by rw [beq_iff_eq]; exact h)
  ·exact .inr ⟨by rw [beq_eq_false_iff_ne]; omega, by rw [beq_iff_eq]; exact h⟩
 have HH := xhd (fun (W : World) => y2t v r A l.length c W hr.2.1)
 clear hb hk0
 by_cases hn : r.numbered l
 ·have HO := xhd (show r.heedP l = some (Pure.wide (r.nearTo (Pure.bnum l)) r.len.toNat) by unfold Pure.Rule.heedP; rw [if_neg (by have := H24.out; omega), if_pos ⟨H24.out, hn⟩])
  have CM := xhd (fun (W : World) (k : Keeps y02 w W) => y2b F (.slice A l.length c) l W (hr.keeps k (fun _ _ h => h)) (by have h := hn.2.1; have h' := hn.2.2; omega))
  have CN := xhd (fun (W : World) (_ : Keeps y02 w W) => y3s v r (Pure.bnum l) W (Pure.bnum_small (by have h := hn.2.1; have h' := hn.2.2; omega)) (hM hn.1 hn.2.1))
  have HEN := xhd (fun W => y58 (r.nearTo (Pure.bnum l)) r.len W (Pure.Rule.near_lt hM hn) hn.1 hn.2.1)
  have HHT := xhd (show ∀ (W : World), Calls Try.prog 53 #[y0g (v, r), .slice A l.length c] W fun e w' => e = .returned (.bool true) ∧ Keeps y02 W w' from by
   have h := HH.out
   rw [decide_eq_true (show 1 ≤ r.len ∧ r.len ≤ 4 ∧ (l.length : Int) = r.len from hn)] at h
   exact h)
  clear hr HH hn hM
  rcases h24 with h2 | ⟨h2, h4⟩
  all_goals
   have z2 := HC0.out 2 _ rfl
   have z5 := HC0.out 5 _ rfl
   have z4 := HC0.out 4 _ rfl
   have z0 := HC0.out 0 _ rfl
   have z1 := HC0.out 1 _ rfl
   have z3 := HC0.out 3 _ rfl
   have z6 := HC0.out 6 _ rfl
   go_enter Try.func32, Try.ntmps32
   go_wp2_with fail
   refine (HHT.out _).mono ?_
   rintro e w1 ⟨rfl, hk1⟩
   have HK1 := xhd (HK0.out.trans hk1)
   have HS1 := xhd (fun j u (h : (y04 (v, r))[j]? = some u) => y0a (HC0.out j u h) hk1)
   clear hk1 z0 z1 z2 z3 z4 z5 z6
   go_wp2_with fail
   refine y0e (fun w' => ∀ j u, (y04 (v, r))[j]? = some u → w'.cell? ⟨w.heap.size, j, none⟩ = some u) 8 9 rfl (by kernel_rfl) (fun j u h => HS1.out j u h) (fun hHeld => ?_)
   have HSW := hHeld
   clear hHeld
   have HK0d := xhd (HK1.out.drew)
   refine y00 (i := 0) rfl (by kernel_rfl) (fun _ _ _ h => h) (Or.inl ⟨by rfl, by intro w hSw; have c0 := hSw 0 _ rfl; have c1 := hSw 1 _ rfl; have c2 := hSw 2 _ rfl; have c3 := hSw 3 _ rfl; have c4 := hSw 4 _ rfl; have c5 := hSw 5 _ rfl; have c6 := hSw 6 _ rfl; go_simp; try with_reducible rfl⟩) HSW.out ?_
   simp only [Act.put, xqA, xqB, xqD, xqE, xqF]
   refine y00 (i := 1) rfl (by kernel_rfl) (fun _ _ _ h => h) (Or.inl ⟨by rfl, by intro w hSw; have c0 := hSw 0 _ rfl; have c1 := hSw 1 _ rfl; have c2 := hSw 2 _ rfl; have c3 := hSw 3 _ rfl; have c4 := hSw 4 _ rfl; have c5 := hSw 5 _ rfl; have c6 := hSw 6 _ rfl; go_simp; try with_reducible rfl⟩) HSW.out ?_
   simp only [Act.put, xqA, xqB, xqC, xqD, xqE, xqF]
   refine y00 (i := 4) rfl (by kernel_rfl) (fun _ _ _ h => h) (Or.inl ⟨by rfl, by intro w hSw; have c0 := hSw 0 _ rfl; have c1 := hSw 1 _ rfl; have c2 := hSw 2 _ rfl; have c3 := hSw 3 _ rfl; have c4 := hSw 4 _ rfl; have c5 := hSw 5 _ rfl; have c6 := hSw 6 _ rfl; go_simp; try with_reducible rfl⟩) HSW.out ?_
   simp only [Act.put, xqA, xqB, xqC, xqD, xqE, xqF]
   refine y00 (i := 5) rfl (by kernel_rfl) (fun _ _ _ h => h) (Or.inl ⟨by rfl, by intro w hSw; have c0 := hSw 0 _ rfl; have c1 := hSw 1 _ rfl; have c2 := hSw 2 _ rfl; have c3 := hSw 3 _ rfl; have c4 := hSw 4 _ rfl; have c5 := hSw 5 _ rfl; have c6 := hSw 6 _ rfl; go_simp; try with_reducible rfl⟩) HSW.out ?_
   simp only [Act.put, xqA, xqB, xqC, xqD, xqE, xqF]
   refine y05 (i := 2) (by kernel_rfl) rfl (fun K hK => ?_)
   try rw [if_pos (by rfl)]
   go_simp
   refine (CM.out _ HK0d.out).mono ?_
   rintro e w' ⟨rfl, rfl⟩
   refine hK.out _ _ (fun _ => HSW.out) ?_
   clear hK K
   try simp only [Act.put, xqA, Nat.reduceAdd, xqB, xqC, xqD, xqE, xqF]
   refine y05 (i := 3) (by kernel_rfl) rfl (fun K hK => ?_)
   try rw [if_pos (by rfl)]
   go_simp
   refine (CN.out _ HK0d.out).mono ?_
   rintro e w2 ⟨rfl, hk2⟩
   have HK2 := xhd (HK0d.out.trans hk2)
   have HS2 := xhd (fun j u (h : (y04 (v, r))[j]? = some u) => y0a (HSW.out j u h) hk2)
   clear hk2
   refine hK.out _ _ (fun _ => HS2.out) ?_
   clear hK K
   try simp only [Act.put, xqA, Nat.reduceAdd, xqB, xqC, xqD, xqE, xqF]
   refine y05 (i := 6) (by kernel_rfl) rfl (fun K hK => ?_)
   try rw [if_pos (by rfl)]
   go_simp
   refine (HEN.out _).mono ?_
   rintro e w4 ⟨A4, cc4, rfl, hu4, hk4⟩
   have HU4 := xhd (hu4.mono (G := fun b => w.heap.size ≤ b) (fun b hb => Nat.le_trans HK2.out.size hb))
   have HK4 := xhd (HK2.out.trans hk4)
   have HS4 := xhd (fun j u (h : (y04 (v, r))[j]? = some u) => y0a (HS2.out j u h) hk4)
   clear hu4 hk4
   refine hK.out _ _ (fun _ => HS4.out) ?_
   clear hK K
   try simp only [Act.put, xqA, Nat.reduceAdd, xqB, xqC, xqD, xqE, xqF]
   refine y00 (i := 7) rfl (by kernel_rfl) (fun _ _ _ h => h) (Or.inl ⟨by rfl, by intro w hSw; have c0 := hSw 0 _ rfl; have c1 := hSw 1 _ rfl; have c2 := hSw 2 _ rfl; have c3 := hSw 3 _ rfl; have c4 := hSw 4 _ rfl; have c5 := hSw 5 _ rfl; have c6 := hSw 6 _ rfl; go_simp; try with_reducible rfl⟩) HS4.out ?_
   simp only [Act.put, xqA, xqB, xqC, xqD, xqE, xqF]
   refine y05 (i := 8) (by kernel_rfl) rfl (fun K hK => ?_)
   go_simp
   refine hK.out _ _ (fun h => absurd rfl h) ?_
   clear hK K
   refine y0d (by kernel_rfl) ?_ _
   go_wp2_with fail
   go_ret2
   rw [HO.out]
   exact y1s (by rw [Pure.wide_length]) HU4.out HK4.out
 ·have HO := xhd (show r.heedP l = none by unfold Pure.Rule.heedP; rw [if_neg (by have := H24.out; omega), if_neg (fun h => hn h.2)])
  have HHT := xhd (show ∀ (W : World), Calls Try.prog 53 #[y0g (v, r), .slice A l.length c] W fun e w' => e = .returned (.bool false) ∧ Keeps y02 W w' from by
   have h := HH.out
   rw [decide_eq_false (show ¬ (1 ≤ r.len ∧ r.len ≤ 4 ∧ (l.length : Int) = r.len) from hn)] at h
   exact h)
  clear hr HH hn hM
  rcases h24 with h2 | ⟨h2, h4⟩
  all_goals
   have z2 := HC0.out 2 _ rfl
   have z5 := HC0.out 5 _ rfl
   have z4 := HC0.out 4 _ rfl
   have z0 := HC0.out 0 _ rfl
   have z1 := HC0.out 1 _ rfl
   have z3 := HC0.out 3 _ rfl
   have z6 := HC0.out 6 _ rfl
   go_enter Try.func32, Try.ntmps32
   go_wp2_with fail
   refine (HHT.out _).mono ?_
   rintro e w1 ⟨rfl, hk1⟩
   have HK1 := xhd (HK0.out.trans hk1)
   clear hk1 z0 z1 z2 z3 z4 z5 z6
   go_wp2_with fail
   go_ret2
   rw [HO.out]
   exact ⟨rfl, HK1.out⟩
theorem heed_one (F : Nat → Prop) (v x : Value) (r : Pure.Rule) (l : List UInt8) (w : World) (hr : Row w F 1 x l.length (u8s l)) (hl : l.length ≤ 1000000) (h1 : r.how = 1) :
  Calls Try.prog 32 #[y0g (v, r), x] w fun e w' => Offs w e w' (r.heedP l) := by
 obtain ⟨B, d, rfl, _⟩ := hr.form
 have hk0 := (Keeps.refl y02 w).alloc (.cells (y04 (v, r)).toArray 58)
 have HK0 := xhd hk0
 have HB := xhd (y19 F (.slice B l.length d) _ l _ (hr.keeps hk0 (fun _ _ h => h)) (by omega))
 have HO := xhd (show r.heedP l = some l by unfold Pure.Rule.heedP; rw [if_pos h1])
 have q1 : (r.how == 1) = true := by rw [beq_iff_eq]; exact h1
 clear h1 hr hk0
 go_enter Try.func32, Try.ntmps32
 go_wp2_with fail
 refine HB.out.mono ?_
 rintro e w5 ⟨u5, rfl, hu5, hb5⟩
 obtain ⟨A5, cc5, rfl⟩ := y0b hu5
 have HU5 := xhd ((Row.of_own hu5).mono (G := fun b => w.heap.size ≤ b) (fun b hb => Nat.le_trans HK0.out.size (y0c hu5 b hb)))
 have HK5 := xhd (HK0.out.trans (Keeps.new hb5))
 clear hu5 hb5 HB
 go_wp2_with fail
 go_ret2
 rw [HO.out]
 exact y1s rfl HU5.out HK5.out
theorem heed_none (v x : Value) (r : Pure.Rule) (l : List UInt8) (w : World) (h1 : r.how ≠ 1) (h2 : r.how ≠ 2) (h4 : r.how ≠ 4) :
  Calls Try.prog 32 #[y0g (v, r), x] w fun e w' => Offs w e w' (r.heedP l) := by
 have HK0 := xhd ((Keeps.refl y02 w).alloc (.cells (y04 (v, r)).toArray 58))
 have HO := xhd (show r.heedP l = none by unfold Pure.Rule.heedP; rw [if_neg h1, if_neg (fun h => by rcases h.1 with h | h; exact h2 h; exact h4 h)])
 have q1 : (r.how == 1) = false := by rw [beq_eq_false_iff_ne]; exact h1
 have q2 : (r.how == 2) = false := by rw [beq_eq_false_iff_ne]; exact h2
 have q4 : (r.how == 4) = false := by rw [beq_eq_false_iff_ne]; exact h4
 clear h1 h2 h4
 go_enter Try.func32, Try.ntmps32
 go_wp2_with fail
 go_ret2
 rw [HO.out]
 exact ⟨rfl, HK0.out⟩
theorem heed_any (F : Nat → Prop) (v x : Value) (r : Pure.Rule) (l : List UInt8) (w : World) (hr : Row w F 1 x l.length (u8s l)) (hl : l.length ≤ 1000000) (hM : r.Ok) :
  Calls Try.prog 32 #[y0g (v, r), x] w fun e w' => Offs w e w' (r.heedP l) := by
 by_cases h1 : r.how = 1
 ·exact heed_one F v x r l w hr hl h1
 by_cases h24 : r.how = 2 ∨ r.how = 4
 ·exact heed_num F v x r l w hr h24 hM
 ·exact heed_none v x r l w h1 (fun h => h24 (.inl h)) (fun h => h24 (.inr h))
namespace Pure
theorem needy_for (rules : List Rule) (t : Int) : needy rules t = (ruleFor rules t).need := by
 unfold needy ruleFor
 cases ruleOf rules t <;> rfl
theorem left_step (rules : List Rule) (rej l : List Opt) (k : Nat) (o : Opt) (h : l[k]? = some o) : (l.take (k + 1)).filter (stays rules rej) = if stays rules rej o = true then (l.take k).filter (stays rules rej) ++ [o] else (l.take k).filter (stays rules rej) := by
 rw [take_snoc l k o h, List.filter_append]
 by_cases hs : stays rules rej o = true
 ·rw [if_pos hs]; simp [hs]
 ·rw [if_neg hs]; simp [hs]
end Pure
theorem run_need (a b c d e : Int) (v : Value) (n : Bool) (w : World) : (Instr.field 58 (.agg #[.int .i64 a, .int .i64 b, .int .i64 c, .int .i64 d, .int .i64 e, v, .bool n]) 6).run Try.prog w = .ok (.bool n) w := by kernel_rfl
theorem left_any (Fu Fx Fr : Nat → Prop) (xu x xr : Value) (us : List (Value × Pure.Rule)) (zs rs : List (Value × Pure.Opt)) (w : World) (hu : RRow w Fu xu us) (hx : ORow w Fx x zs) (hr : ORow w Fr xr rs) (hfx : FewOpts zs) :
  Calls Try.prog 14 #[xu, x, xr] w fun e w' => ∃ u, ∃ qs : List (Value × Pure.Opt), e = .returned u ∧ y01 qs = Pure.left (y06 us) (y01 zs) (y01 rs) ∧ Read w w' u qs := by
 obtain ⟨X, cx, rfl, _⟩ := hx.form
 obtain ⟨U, cu, rfl, _⟩ := hu.form
 obtain ⟨V, cv, rfl, _⟩ := hr.form
 have HX := xhd hx
 have HR := xhd hr
 have HU := xhd hu
 have HFX := xhd hfx
 have hzl := hfx.len
 clear hx hu hr hfx
 go_enter Try.func14, Try.ntmps14
 go_wp2_with fail
 go_loopw [7, 12] (fun v i wr => ∃ k : Nat, k ≤ zs.length ∧ i = .int .i64 (k : Int) ∧ ∃ qs : List (Value × Pure.Opt), y01 qs = ((y01 zs).take k).filter (Pure.stays (y06 us) (y01 rs)) ∧ qs.length ≤ k ∧ Read w wr v qs) (fun _ i _ => zs.length - (intOf i).toNat)
 case atStart => exact ⟨0, by omega, rfl, [], rfl, by simp, Read.nil w⟩
 case round =>
  obtain ⟨k, hk, rfl, qs, hqs, hql, hrd⟩ := hrel
  obtain ⟨A2, c2, rfl⟩ := y0b hrd.own
  have HQS := xhd hqs
  have HRD := xhd hrd
  clear hqs hrd
  by_cases hkl : k < zs.length
  ·have i0' : (0 : Int) ≤ (k : Int) := by omega
   have i1 : (k : Int) < (zs.length : Int) := by omega
   have d1 : decide ((k : Int) < (zs.length : Int)) = true := decide_eq_true (by omega)
   have d2 : decide (k < zs.length) = true := decide_eq_true hkl
   have hkw : Keeps y02 w wr := Keeps.new HRD.out.below
   obtain ⟨bx, ox, A1, c1, t, D, rfl, hFb, x0, x1, hra, hpa⟩ := (HX.out.keeps hkw (fun _ _ h => h)).pick k hkl
   have hDl : D.length ≤ 100000 := HFX.out.data _ (List.mem_of_getElem? hpa)
   have hok : (y01 zs)[k]? = some (t, D) := by rw [List.getElem?_map, hpa]; rfl
   have HST := xhd (Pure.left_step (y06 us) (y01 rs) (y01 zs) k (t, D) hok)
   have HOK := xhd hok
   have HRA := xhd hra
   have HKW := xhd hkw
   clear hra hpa hok hkw
   go_upto_region 5 with fail
   obtain ⟨wb, hwb⟩ : ∃ wb, wb = wr.alloc (.cells #[.int .i64 t, .slice A1 D.length c1] 40) := ⟨_, rfl⟩
   obtain ⟨gb, hgb⟩ : ∃ gb, gb = wr.heap.size := ⟨_, rfl⟩
   rw [← hwb, ← hgb]
   have hkb : Keeps y02 wr wb := by rw [hwb]; exact (Keeps.refl _ wr).alloc _
   have hbb : Blk wb gb 40 #[.int .i64 t, .slice A1 D.length c1] := by rw [hwb, hgb]; exact Blk.new wr _ _
   have y0 : wb.cell? ⟨gb, 0, none⟩ = some (.int .i64 t) := by rw [hbb.cell]; rfl
   have y1 : wb.cell? ⟨gb, 1, none⟩ = some (.slice A1 D.length c1) := by rw [hbb.cell]; rfl
   have HKb := xhd hkb
   have HY := xhd (And.intro y0 y1)
   have HRF := xhd (fun (W : World) (hK : Keeps y02 wb W) => y1p Fu (.slice U us.length cu) us t W (HU.out.keeps ((HKW.out.trans HKb.out).trans hK) (fun _ _ h => h)))
   have HHA := xhd (has_any Fr Fx (.slice V rs.length cv) rs (.slice A1 D.length c1, (t, D)) wb (HR.out.keeps (HKW.out.trans HKb.out) (fun _ _ h => h)) (HRA.out.keeps HKb.out (fun _ _ h => h)))
   obtain ⟨hb, hhb⟩ : ∃ hb, hb = (y01 rs).any fun z => decide ((t, D) = z) := ⟨_, rfl⟩
   have HHA := xhd (show Calls Try.prog 37 #[.slice V rs.length cv, optV (.slice A1 D.length c1, (t, D))] wb fun e w' => e = .returned (.bool hb) ∧ Keeps y02 wb w' from by rw [hhb]; exact HHA.out)
   have HHB := xhd hhb
   clear hwb hgb hbb hkb x0 x1 hhb y0 y1
   go_cut [26] (fun s wx => s = .bool (Pure.stays (y06 us) (y01 rs) (t, D)) ∧ Keeps y02 wb wx)
   case first =>
    have y0 := HY.out.1
    have y1 := HY.out.2
    have HSD := xhd (show Pure.stays (y06 us) (y01 rs) (t, D) = (!hb || (Pure.ruleFor (y06 us) t).need) by
     unfold Pure.stays
     dsimp only
     rw [← HHB.out, Pure.needy_for])
    go_wp2_with fail
    refine HHA.out.mono ?_
    rintro e w2 ⟨rfl, hk2⟩
    have HK2 := xhd hk2
    have z0 := y0a y0 hk2
    clear hk2 y0 y1 HHA HHB
    cases hb
    ·go_wp2_with fail
     go_meet
     exact ⟨congrArg Value.bool (by rw [HSD.out]; rfl), HK2.out⟩
    ·go_wp2_with fail
     refine (HRF.out _ HK2.out).mono ?_
     rintro e w3 ⟨pA, pc, pr, rfl, hpr, _, _, hk3⟩
     have HPR := xhd hpr
     have HK3 := xhd (HK2.out.trans hk3)
     clear hpr hk3 z0 HRF
     rw [show y0g (Value.slice pA pr.want.length pc, pr) = Value.agg #[.int .i64 pr.type, .int .i64 pr.len, .int .i64 pr.how, .int .i64 pr.lo, .int .i64 pr.hi, .slice pA pr.want.length pc, .bool pr.need] from rfl]
     have hfield := run_need pr.type pr.len pr.how pr.lo pr.hi (.slice pA pr.want.length pc) pr.need w3
     go_wp2_with fail
     go_meet
     exact ⟨congrArg Value.bool (by rw [HSD.out, ← HPR.out]; rfl), HK3.out⟩
   case rest =>
    obtain ⟨hs, hkc⟩ := hcut
    obtain ⟨b, hb⟩ : ∃ b, b = Pure.stays (y06 us) (y01 rs) (t, D) := ⟨_, rfl⟩
    rw [← hb] at hs HST
    have HKC := xhd (HKb.out.trans hkc)
    have y0 := y0a HY.out.1 hkc
    have y1 := y0a HY.out.2 hkc
    subst hs
    clear hkc hb HRF HHA HY
    cases b
    ·have HST2 := xhd (show ((y01 zs).take (k + 1)).filter (Pure.stays (y06 us) (y01 rs)) = ((y01 zs).take k).filter (Pure.stays (y06 us) (y01 rs)) by rw [HST.out]; rfl)
     clear HST y0 y1
     go_wp2_with fail
     go_roundw
     case rel => exact ⟨k + 1, by omega, by go_num, _, by rw [HST2.out, ← HQS.out], by omega, HRD.out.keeps HKC.out⟩
     case measure => simp [intOf] <;> omega
    ·have HST2 := xhd (show ((y01 zs).take (k + 1)).filter (Pure.stays (y06 us) (y01 rs)) = ((y01 zs).take k).filter (Pure.stays (y06 us) (y01 rs)) ++ [(t, D)] by rw [HST.out]; rfl)
     have HCP := xhd (y2h Fx (.slice A1 D.length c1) t D wc (HRA.out.keeps HKC.out (fun _ _ h => h)) (by omega))
     clear HST
     go_wp2_with fail
     refine HCP.out.mono ?_
     rintro e w7 ⟨A3, c3, rfl, hu, hk7⟩
     have hkr : Keeps y02 wr w7 := HKC.out.trans hk7
     have HUU := xhd (HRD.out.fresh (hu.mono (G := fun b => wr.heap.size ≤ b) (fun b hb => Nat.le_trans HKC.out.size hb)))
     have HR2 := xhd (HRD.out.keeps hkr)
     clear hu hk7 hkr HCP y0 y1
     go_wp2_with (at_builtin; refine y0j ?_)
     unfold Hid
     refine y0v rfl (.tmp 27) (.tmp 30) rfl _ qs A3 c3 t D rfl rfl HR2.out (by omega) HUU.out ?_
     intro A4 c4 w8 hread hkx
     have HRead := xhd hread
     clear hread hkx
     go_wp2_with fail
     go_roundw
     case rel => exact ⟨k + 1, by omega, by go_num, qs ++ [(.slice A3 D.length c3, (t, D))], by rw [HST2.out, ← HQS.out]; simp [y01], by simp; omega, HRead.out⟩
     case measure => simp [intOf] <;> omega
  ·have hkk : k = zs.length := by omega
   subst hkk
   have d1 : decide ((zs.length : Int) < (zs.length : Int)) = false := decide_eq_false (by omega)
   have d2 : decide (zs.length < zs.length) = false := decide_eq_false (by omega)
   go_wp2
   go_ret
   exact ⟨_, qs, rfl, by have h := HQS.out; rwa [List.take_of_length_le (by simp)] at h, HRD.out⟩
namespace Pure
theorem naked_for (rules : List Rule) (hM : ∀ r : Int × Rule, ruleFor rules r.1 = r.2 → r.2.Ok) (nak : List Opt) (o : Opt) : nakedOne rules nak o = match nak.find? (fun p => decide (p.1 = o.1)) with
  | none => o
  | some p => match (ruleFor rules o.1).heedP p.2 with | some d => (o.1, d) | none => o := by
 unfold nakedOne
 cases nak.find? (fun p => decide (p.1 = o.1)) with
 | none => rfl
 | some p =>
  dsimp only
  unfold ruleFor
  cases hr : ruleOf rules o.1 with
  | none =>
   have : deadRule.heedP p.2 = none := by unfold Rule.heedP deadRule; simp
   simp only [Option.getD_none, this]
  | some r =>
   have hok : r.Ok := hM (o.1, r) (by unfold ruleFor; rw [hr]; rfl)
   simp only [Option.getD_some]
   unfold Rule.heedP
   by_cases h1 : r.how = 1
   ·rw [if_pos h1, if_pos h1]
   ·rw [if_neg h1, if_neg h1]
    by_cases h2 : r.how = 2
    ·by_cases hn : r.numbered p.2
     ·rw [if_pos (show r.how = 2 ∧ r.numbered p.2 from ⟨h2, hn⟩), if_pos (show (r.how = 2 ∨ r.how = 4) ∧ r.numbered p.2 from ⟨.inl h2, hn⟩)]
      unfold Rule.nearTo
      rw [if_neg (show ¬ r.how = 4 by omega)]
     ·rw [if_neg (show ¬ (r.how = 2 ∧ r.numbered p.2) from fun h => hn h.2), if_neg (show ¬ (r.how = 4 ∧ r.numbered p.2) from fun h => hn h.2), if_neg (show ¬ ((r.how = 2 ∨ r.how = 4) ∧ r.numbered p.2) from fun h => hn h.2)]
    ·rw [if_neg (show ¬ (r.how = 2 ∧ r.numbered p.2) from fun h => h2 h.1)]
     by_cases h4 : r.how = 4
     ·by_cases hn : r.numbered p.2
      ·rw [if_pos (show r.how = 4 ∧ r.numbered p.2 from ⟨h4, hn⟩), if_pos (show (r.how = 2 ∨ r.how = 4) ∧ r.numbered p.2 from ⟨.inr h4, hn⟩)]
       unfold Rule.nearTo
       rw [if_pos h4]
      ·rw [if_neg (show ¬ (r.how = 4 ∧ r.numbered p.2) from fun h => hn h.2), if_neg (show ¬ ((r.how = 2 ∨ r.how = 4) ∧ r.numbered p.2) from fun h => hn h.2)]
     ·rw [if_neg (show ¬ (r.how = 4 ∧ r.numbered p.2) from fun h => h4 h.1), if_neg (show ¬ ((r.how = 2 ∨ r.how = 4) ∧ r.numbered p.2) from fun h => by rcases h.1 with h | h; exact h2 h; exact h4 h)]
end Pure
theorem y1v (qs : List (Value × Pure.Opt)) (k : Nat) (p : Value × Pure.Opt) : y01 (qs.set k p) = (y01 qs).set k p.2 := by simp [y01, List.map_set]
def y0r (rules : List Pure.Rule) (nak l : List Pure.Opt) (k : Nat) : List Pure.Opt := (l.take k).map (Pure.nakedOne rules nak) ++ l.drop k
theorem y2k (rules : List Pure.Rule) (nak l : List Pure.Opt) (k : Nat) (o : Pure.Opt) (h : l[k]? = some o) (hn : Pure.nakedOne rules nak o = o) : y0r rules nak l k = y0r rules nak l (k + 1) := by
 unfold y0r
 rw [Pure.take_snoc l k o h, List.map_append, List.map_cons, List.map_nil, hn, List.append_assoc]
 congr 1
 have hk := (List.getElem?_eq_some_iff.1 h).1
 rw [List.drop_eq_getElem_cons hk, (List.getElem?_eq_some_iff.1 h).2]
 rfl
theorem y5q (rules : List Pure.Rule) (nak l : List Pure.Opt) (k : Nat) (o p : Pure.Opt) (h : l[k]? = some o) (hn : Pure.nakedOne rules nak o = p) : (y0r rules nak l k).set k p = y0r rules nak l (k + 1) := by
 unfold y0r
 have hk := (List.getElem?_eq_some_iff.1 h).1
 rw [Pure.take_snoc l k o h, List.map_append, List.map_cons, List.map_nil, hn, List.append_assoc, List.drop_eq_getElem_cons hk]
 have hl : ((l.take k).map (Pure.nakedOne rules nak)).length = k := by rw [List.length_map, List.length_take]; omega
 rw [List.set_append_right _ _ (by omega), hl, Nat.sub_self, xqF]
 rfl
theorem naked_any (Fu Fx Fn : Nat → Prop) (xu x xn : Value) (us : List (Value × Pure.Rule)) (zs ns : List (Value × Pure.Opt)) (w : World) (hu : RRow w Fu xu us) (hx : ORow w Fx x zs) (hn : ORow w Fn xn ns) (hfu : FewRules us) (hfx : FewOpts zs) (hfn : FewOpts ns) :
  Calls Try.prog 12 #[xu, x, xn] w fun e w' => ∃ u, ∃ qs : List (Value × Pure.Opt), e = .returned u ∧ y01 qs = Pure.naked (y06 us) (y01 zs) (y01 ns) ∧ Read w w' u qs := by
 obtain ⟨U, cu, rfl, _⟩ := hu.form
 obtain ⟨V, cv, rfl, _⟩ := hn.form
 have HU := xhd hu
 have HN := xhd hn
 have HFU := xhd hfu
 have HFN := xhd hfn
 have hzl := hfx.len
 have hnl := hfn.len
 have HOKR := xhd (fun (r : Int × Pure.Rule) (hr : Pure.ruleFor (y06 us) r.1 = r.2) => show r.2.Ok by
  unfold Pure.ruleFor at hr
  cases ho : Pure.ruleOf (y06 us) r.1 with
  | none => rw [ho] at hr; rw [← hr]; exact dead_ok
  | some q =>
   rw [ho] at hr
   have hr : q = r.2 := hr
   unfold Pure.ruleOf at ho
   obtain ⟨p, hp, he⟩ := List.mem_map.1 (List.mem_of_find?_eq_some ho)
   rw [← hr, ← he]
   exact (hfu.ok p hp).1)
 have HCP := xhd (y16 Fx x zs w hx hfx.len hfx.data)
 clear hu hx hn hfu hfx hfn
 go_enter Try.func12, Try.ntmps12
 go_wp2_with fail
 refine HCP.out.mono ?_
 rintro e w1 ⟨u0, q0, rfl, hq0, hr0⟩
 obtain ⟨A2, c2, rfl⟩ := y0b hr0.own
 have hl0 : q0.length = zs.length := by have := congrArg List.length hq0; simpa using this
 rw [hl0] at hr0 ⊢
 have HQ0 := xhd hq0
 have HR0 := xhd hr0
 have hk0 : Keeps y02 w w1 := Keeps.new hr0.below
 clear hq0 hr0 HCP hl0 hk0
 go_wp2_with fail
 go_loopw [17] (fun i wr => ∃ k : Nat, k ≤ zs.length ∧ i = .int .i64 (k : Int) ∧ ∃ qs : List (Value × Pure.Opt), y01 qs = y0r (y06 us) (y01 ns) (y01 zs) k ∧ Read w wr (.slice A2 zs.length c2) qs) (fun i _ => zs.length - (intOf i).toNat)
 case atStart => exact ⟨0, by omega, rfl, q0, by rw [HQ0.out]; simp [y0r], HR0.out⟩
 case round =>
  clear HQ0 HR0
  obtain ⟨k, hk, rfl, qs, hqs, hrd⟩ := hrel
  have hql : qs.length = zs.length := by
   have := congrArg List.length hqs
   simp [y0r] at this
   omega
  have HQS := xhd hqs
  have HRD := xhd hrd
  have HQL := xhd hql
  clear hqs
  by_cases hkl : k < zs.length
  ·have i0' : (0 : Int) ≤ (k : Int) := by omega
   have i1 : (k : Int) < (zs.length : Int) := by omega
   have d1 : decide ((k : Int) < (zs.length : Int)) = true := decide_eq_true (by omega)
   have d2 : decide (k < zs.length) = true := decide_eq_true hkl
   have hrow0 := hrd.row
   obtain ⟨g, rfl, hgl⟩ : ∃ g, A2 = some ⟨g, 0, none⟩ ∧ w.heap.size ≤ g := by
    rcases hrd.own.2 with ⟨e, h0⟩ | ⟨g, cap, cur, e, hg, _⟩
    ·omega
    ·injection e with e1
     exact ⟨g, e1, hg⟩
   have hok : (y01 zs)[k]? = some ((y01 zs)[k]'(by simpa using hkl)) := List.getElem?_eq_getElem _
   obtain ⟨⟨t, D⟩, hoz⟩ : ∃ o, o = (y01 zs)[k]'(by simpa using hkl) := ⟨_, rfl⟩
   rw [← hoz] at hok
   have hokq : (y01 qs)[k]? = some (t, D) := by
    rw [HQS.out]
    unfold y0r
    rw [List.getElem?_append_right (by rw [List.length_map, List.length_take]; omega), List.getElem?_drop, ← hok]
    congr 1
    simp
    omega
   have HOK := xhd hok
   rw [← hql] at hrow0
   obtain ⟨bx, ox, A1, c1, t', D', e1, hFb, x0, x1, hra, hpa⟩ := hrow0.pick k (by omega)
   obtain ⟨rfl, rfl⟩ : g = bx ∧ ox = 0 := by
    injection e1 with e1
    injection e1 with e1 e2
    exact ⟨e1, e2.symm⟩
   obtain ⟨rfl, rfl⟩ : t' = t ∧ D' = D := by
    rw [List.getElem?_map, hpa] at hokq
    injection hokq with hokq
    injection hokq with a b
    exact ⟨a, b⟩
   have HQK := xhd (show ∃ u, qs[k]? = some (u, (t', D')) from ⟨_, hpa⟩)
   rw [Nat.zero_add] at x0 x1
   clear hok hokq hoz hrow0 e1 hra hpa hrd hql hFb
   go_upto_region 5 with fail
   obtain ⟨wb, hwb⟩ : ∃ wb, wb = wr.alloc (.cells #[.int .i64 t', .slice A1 D'.length c1] 40) := ⟨_, rfl⟩
   obtain ⟨gb, hgb⟩ : ∃ gb, gb = wr.heap.size := ⟨_, rfl⟩
   rw [← hwb, ← hgb]
   have hkb : Keeps y02 wr wb := by rw [hwb]; exact (Keeps.refl _ wr).alloc _
   have hbb : Blk wb gb 40 #[.int .i64 t', .slice A1 D'.length c1] := by rw [hwb, hgb]; exact Blk.new wr _ _
   have y0 : wb.cell? ⟨gb, 0, none⟩ = some (.int .i64 t') := by rw [hbb.cell]; rfl
   have HKW := xhd (Keeps.new HRD.out.below)
   have HKb := xhd hkb
   have HFI := xhd (y3r Fn (.slice V ns.length cv) ns t' wb (HN.out.keeps (HKW.out.trans hkb) (fun _ _ h => h)))
   clear hwb hgb hbb hkb x0 x1
   go_wp2_with fail
   refine HFI.out.mono ?_
   rintro e w2 ⟨i, rfl, hp, hk2⟩
   have HK1 := xhd (HKb.out.trans hk2)
   have HC0 := xhd (y0a y0 hk2)
   clear hk2 y0 HFI
   rcases hp.find with ⟨rfl, hnone⟩ | ⟨j, o, rfl, hjl, hjo, hsome⟩
   ·have HE := xhd (show Pure.nakedOne (y06 us) (y01 ns) (t', D') = (t', D') by unfold Pure.nakedOne; dsimp only; rw [hnone])
    clear hp hnone
    go_wp2_with fail
    go_roundw
    case rel => exact ⟨k + 1, by omega, by go_num, _, by rw [HQS.out]; exact y2k _ _ _ k (t', D') HOK.out HE.out, HRD.out.keeps HK1.out⟩
    case measure => simp [intOf] <;> omega
   ·have hjn : j < ns.length := by simpa using hjl
    obtain ⟨bn, nn, A5, c5, t5, D5, rfl, hFn, n0, n1, hrn, hpn⟩ := (HN.out.keeps (HKW.out.trans HK1.out) (fun _ _ h => h)).pick j hjn
    have ho5 : o = (t5, D5) := by
     rw [List.getElem?_map, hpn] at hjo
     injection hjo with hjo
     exact hjo.symm
    subst ho5
    have hD5 : D5.length ≤ 100000 := HFN.out.data _ (List.mem_of_getElem? hpn)
    have HFND := xhd (show (y01 ns).find? (fun p => decide (p.1 = t')) = some (t5, D5) from hsome)
    have HRN := xhd hrn
    have j0 : (0 : Int) ≤ (j : Int) := by omega
    have j1 : (j : Int) < (ns.length : Int) := by omega
    have dj : decide ((j : Int) < 0) = false := decide_eq_false (by omega)
    have HC1 := xhd (And.intro HC0.out n1)
    have HK13 := xhd HK1.out
    have HKZ := xhd (Keeps.refl y02 w2)
    have HRF := xhd (fun (W : World) (hK : Keeps y02 w2 W) => y1p Fu (.slice U us.length cu) us t' W (HU.out.keeps ((HKW.out.trans HK1.out).trans hK) (fun _ _ h => h)))
    clear hp hjl hjo hsome hrn hpn n0 n1 hFn
    go_wp2_with fail
    refine y0e (fun w' => w'.cell? ⟨gb, 0, none⟩ = some (.int .i64 t') ∧ w'.cell? ⟨bn, nn + j * 2 + 1, none⟩ = some (.slice A5 D5.length c5)) 14 15 rfl (by kernel_rfl) ⟨HC1.out.1, HC1.out.2⟩ (fun hHeld => ?_)
    have HSW := hHeld
    clear hHeld
    have HK0d := xhd (HKZ.out.drew)
    refine y00 (i := 0) rfl (by kernel_rfl) (fun _ _ _ h => h) (Or.inl ⟨by rfl, by intro w hSw; obtain ⟨s0, s1⟩ := hSw; go_simp; try with_reducible rfl⟩) HSW.out ?_
    simp only [Act.put, xqA, xqB, xqD, xqE, xqF]
    refine y00 (i := 1) rfl (by kernel_rfl) (fun _ _ _ h => h) (Or.inl ⟨by rfl, by intro w hSw; obtain ⟨s0, s1⟩ := hSw; go_simp; try with_reducible rfl⟩) HSW.out ?_
    simp only [Act.put, xqA, xqB, xqC, xqD, xqE, xqF]
    refine y00 (i := 2) rfl (by kernel_rfl) (fun _ _ _ h => h) (Or.inl ⟨by rfl, by intro w hSw; obtain ⟨s0, s1⟩ := hSw; go_simp; try with_reducible rfl⟩) HSW.out ?_
    simp only [Act.put, xqA, xqB, xqC, xqD, xqE, xqF]
    refine y00 (i := 4) rfl (by kernel_rfl) (fun _ _ _ h => h) (Or.inl ⟨by rfl, by intro w hSw; obtain ⟨s0, s1⟩ := hSw; go_simp; try with_reducible rfl⟩) HSW.out ?_
    simp only [Act.put, xqA, xqB, xqC, xqD, xqE, xqF]
    refine y00 (i := 5) rfl (by kernel_rfl) (fun _ _ _ h => h) (Or.inl ⟨by rfl, by intro w hSw; obtain ⟨s0, s1⟩ := hSw; go_simp; try with_reducible rfl⟩) HSW.out ?_
    simp only [Act.put, xqA, xqB, xqC, xqD, xqE, xqF]
    refine y00 (i := 6) rfl (by kernel_rfl) (fun _ _ _ h => h) (Or.inl ⟨by rfl, by intro w hSw; obtain ⟨s0, s1⟩ := hSw; go_simp; try with_reducible rfl⟩) HSW.out ?_
    simp only [Act.put, xqA, xqB, xqC, xqD, xqE, xqF]
    refine y00 (i := 7) rfl (by kernel_rfl) (fun _ _ _ h => h) (Or.inl ⟨by rfl, by intro w hSw; obtain ⟨s0, s1⟩ := hSw; go_simp; try with_reducible rfl⟩) HSW.out ?_
    simp only [Act.put, xqA, xqB, xqC, xqD, xqE, xqF]
    refine y00 (i := 8) rfl (by kernel_rfl) (fun _ _ _ h => h) (Or.inl ⟨by rfl, by intro w hSw; obtain ⟨s0, s1⟩ := hSw; go_simp; try with_reducible rfl⟩) HSW.out ?_
    simp only [Act.put, xqA, xqB, xqC, xqD, xqE, xqF]
    refine y05 (i := 3) (by kernel_rfl) rfl (fun K hK => ?_)
    try rw [if_pos (by rfl)]
    go_simp
    refine (HRF.out _ HK0d.out).mono ?_
    rintro e w3 ⟨pA, pc, pr, rfl, hpr, hrow, hin, hk3⟩
    have HPR := xhd hpr
    have HIN := xhd (HFU.out.pick hin)
    have HRW := xhd hrow
    have HK3 := xhd (HK0d.out.trans hk3)
    have HS3 := xhd (And.intro (y0a HSW.out.1 hk3) (y0a HSW.out.2 hk3))
    clear hpr hrow hin hk3
    refine hK.out _ _ (fun _ => HS3.out) ?_
    clear hK K
    try simp only [Act.put, xqA, Nat.reduceAdd, xqB, xqC, xqD, xqE, xqF]
    refine y05 (i := 9) (by kernel_rfl) rfl (fun K hK => ?_)
    try rw [if_pos (by rfl)]
    go_simp
    refine (heed_any Fn (.slice pA pr.want.length pc) (.slice A5 D5.length c5) pr D5 _ (HRN.out.keeps HK3.out (fun _ _ h => h)) (by omega) HIN.out.1).mono ?_
    rintro e w4 hoff
    obtain ⟨oA, on', oc, rfl, hk4, hdat⟩ := hoff.form
    have HDAT := xhd hdat
    have HK4 := xhd (HK3.out.trans hk4)
    have HS4 := xhd (And.intro (y0a HS3.out.1 hk4) (y0a HS3.out.2 hk4))
    obtain ⟨ok, hok⟩ : ∃ ok, ok = (pr.heedP D5).isSome := ⟨_, rfl⟩
    rw [← hok]
    have HOKS := xhd hok
    clear hoff hk4 hdat hok
    refine hK.out _ _ (fun _ => HS4.out) ?_
    clear hK K
    try simp only [Act.put, xqA, Nat.reduceAdd, xqB, xqC, xqD, xqE, xqF]
    refine y00 (i := 10) rfl (by kernel_rfl) (fun _ _ _ h => h) (Or.inl ⟨by rfl, by intro w hSw; obtain ⟨s0, s1⟩ := hSw; go_simp; try with_reducible rfl⟩) HS4.out ?_
    simp only [Act.put, xqA, xqB, xqC, xqD, xqE, xqF]
    refine y00 (i := 11) rfl (by kernel_rfl) (fun _ _ _ h => h) (Or.inl ⟨by rfl, by intro w hSw; obtain ⟨s0, s1⟩ := hSw; go_simp; try with_reducible rfl⟩) HS4.out ?_
    simp only [Act.put, xqA, xqB, xqC, xqD, xqE, xqF]
    refine y00 (i := 12) rfl (by kernel_rfl) (fun _ _ _ h => h) (Or.inl ⟨by rfl, by intro w hSw; obtain ⟨s0, s1⟩ := hSw; go_simp; try with_reducible rfl⟩) HS4.out ?_
    simp only [Act.put, xqA, xqB, xqC, xqD, xqE, xqF]
    refine y00 (i := 13) rfl (by kernel_rfl) (fun _ _ _ h => h) (Or.inl ⟨by rfl, by intro w hSw; obtain ⟨s0, s1⟩ := hSw; go_simp; try with_reducible rfl⟩) HS4.out ?_
    simp only [Act.put, xqA, xqB, xqC, xqD, xqE, xqF]
    refine y05 (i := 14) (by kernel_rfl) rfl (fun K hK => ?_)
    go_simp
    refine hK.out _ _ (fun h => absurd rfl h) ?_
    clear hK K
    refine y0d (by kernel_rfl) ?_ _
    have HE := xhd (show Pure.nakedOne (y06 us) (y01 ns) (t', D') = match pr.heedP D5 with | some d => (t', d) | none => (t', D') by
     rw [Pure.naked_for _ (fun r hr => HOKR.out r hr), HFND.out]
     dsimp only
     rw [← HPR.out]
     try (cases pr.heedP D5 <;> rfl))
    cases hh : pr.heedP D5 with
    | none =>
     have h1 : ok = false := by have := HOKS.out; rw [hh] at this; exact this
     subst h1
     have HE2 := xhd (HE.out.trans (by rw [hh]))
     clear hh HE HDAT
     go_wp2_with fail
     go_roundw
     case rel => exact ⟨k + 1, by omega, by go_num, _, by rw [HQS.out]; exact y2k _ _ _ k (t', D') HOK.out HE2.out, HRD.out.keeps (HK1.out.trans HK4.out)⟩
     case measure => simp [intOf] <;> omega
    | some d =>
     have h1 : ok = true := by have := HOKS.out; rw [hh] at this; exact this
     subst h1
     have HE2 := xhd (HE.out.trans (by rw [hh]))
     obtain ⟨rfl, hrow⟩ := HDAT.out d hh
     have hR4 := HRD.out.keeps (HK1.out.trans HK4.out)
     have hfr := HRD.out.fresh (hrow.mono (G := fun b => wr.heap.size ≤ b) (fun b hb => Nat.le_trans HK13.out.size (Nat.le_trans HK3.out.size hb)))
     obtain ⟨⟨uc, hc0⟩, hf0, hput⟩ := hR4.put k (t', D') d oA oc HQK.out hfr
     have HPUT := xhd hput
     clear hh HE HDAT hrow hR4 hfr hput
     go_wp2_with fail
     go_roundw
     case rel => exact ⟨k + 1, by omega, by go_num, qs.set k (.slice oA d.length oc, (t', d)), by rw [y1v, HQS.out]; exact y5q _ _ _ k (t', D') _ HOK.out HE2.out, HPUT.out⟩
     case measure => simp [intOf] <;> omega
  ·have hkk : k = zs.length := by omega
   subst hkk
   have d1 : decide ((zs.length : Int) < (zs.length : Int)) = false := decide_eq_false (by omega)
   have d2 : decide (zs.length < zs.length) = false := decide_eq_false (by omega)
   go_wp2
   go_ret
   exact ⟨_, qs, rfl, by rw [HQS.out]; unfold y0r Pure.naked; rw [List.take_of_length_le (by simp), List.drop_of_length_le (by simp), List.append_nil], HRD.out⟩
theorem Read.orow {w0 w : World} {v : Value} {ps : List (Value × Pure.Opt)} (h : Read w0 w v ps) : ORow w (fun b => w0.heap.size ≤ b) v ps :=
 ⟨(Row.of_own h.own).mono (fun b hb => y0c h.own b hb), fun p hp => (h.rows p hp).mono (fun _ hb => hb.1)⟩
end Go.Proofs.Ytgphfindolaljaa
