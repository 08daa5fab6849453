/- Package nego: has; a rule's offer and heed. -/
import Derived.Test.YtmgicbckgpdkcaaGreatDoorC9
namespace Go.Proofs.YtmgicbckgpdkcaaGreatDoor
set_option maxRecDepth 100000
set_option maxHeartbeats 8000000
open _root_.Go.Lib renaming hid → xhd
open List renaming setIfInBounds_toArray → xqA, getElem_toArray → xqB, getElem_cons_succ → xqC, getElem_cons_zero → xqD, set_cons_succ → xqE, set_cons_zero → xqF
open Go.RowKit
theorem has1_any (F G : Nat → Prop) (q o : Value × Pure.Opt) (g : Nat) (w : World) (h0 : w.cell? ⟨g, 0, none⟩ = some (.int .i64 o.2.1)) (h1 : w.cell? ⟨g, 1, none⟩ = some o.1)
  (hq : Row w F 1 q.1 q.2.2.length (u8s q.2.2)) (ho : Row w G 1 o.1 o.2.2.length (u8s o.2.2)) :
  Calls Tryz.prog 245 #[optV q, .pointer (some ⟨g, 0, none⟩)] w fun e w' => e = .returned (.bool (decide (o.2 = q.2))) ∧ Keeps y01 w w' := by
 obtain ⟨v, s, l⟩ := q
 obtain ⟨u, t, k⟩ := o
 dsimp only at hq ho h0 h1 ⊢
 obtain ⟨A, c, rfl, _⟩ := hq.form
 obtain ⟨B, d, rfl, _⟩ := ho.form
 have hk := (Keeps.refl y01 w).alloc (.cells #[.int .i64 s, .slice A l.length c] 31)
 have hg0 := y04 h0 hk
 have hg1 := y04 h1 hk
 have HK := xhd hk
 by_cases hst : s = t
 ·subst hst
  have HE := xhd (y7o F G (.slice A l.length c) (.slice B k.length d) _ _ l k _ (hq.keeps hk (fun _ _ h => h)) (ho.keeps hk (fun _ _ h => h)))
  have HD := xhd (show decide ((s, k) = (s, l)) = decide (l = k) from decide_eq_decide.2 ⟨fun h => by injection h with _ h; exact h.symm, fun h => by rw [h]⟩)
  have e1 : (s == s) = true := beq_self_eq_true s
  clear hq ho h0 h1 hk
  go_enter Tryz.func245, Tryz.ntmps245
  go_wp2_with fail
  refine HE.out.mono ?_
  rintro e w1 ⟨rfl, rfl⟩
  go_wp2_with fail
  go_ret
  exact ⟨by rw [HD.out]; rfl, HK.out⟩
 ·have e1 : (s == t) = false := by rw [beq_eq_false_iff_ne]; exact hst
  have HD := xhd (show decide ((t, k) = (s, l)) = false from decide_eq_false (fun h => by injection h with h _; exact hst h.symm))
  clear hq ho h0 h1 hk hst
  go_enter Tryz.func245, Tryz.ntmps245
  go_wp2_with fail
  go_ret
  exact ⟨by rw [HD.out]; rfl, HK.out⟩
theorem has_any (F G : Nat → Prop) (x : Value) (ps : List (Value × Pure.Opt)) (o : Value × Pure.Opt) (w : World) (hx : ORow w F x ps) (ho : Row w G 1 o.1 o.2.2.length (u8s o.2.2)) :
  Calls Tryz.prog 235 #[x, optV o] w fun e w' => e = .returned (.bool ((y02 ps).any fun z => decide (o.2 = z))) ∧ Keeps y01 w w' := by
 obtain ⟨u, t, k⟩ := o
 have hk := (Keeps.refl y01 w).alloc (.cells #[.int .i64 t, u] 31)
 have hb := Blk.new w 31 #[.int .i64 t, u]
 have h0 : (w.alloc (.cells #[.int .i64 t, u] 31)).cell? ⟨w.heap.size, 0, none⟩ = some (.int .i64 t) := by rw [hb.cell]; rfl
 have h1 : (w.alloc (.cells #[.int .i64 t, u] 31)).cell? ⟨w.heap.size, 1, none⟩ = some u := by rw [hb.cell]; rfl
 have hx1 := hx.keeps hk (fun _ _ h => h)
 have ho1 := ho.keeps hk (fun _ _ h => h)
 have HI := xhd (yad F x ps 245 (.pointer (some ⟨w.heap.size, 0, none⟩)) (fun z => decide ((t, k) = z)) (w.alloc (.cells #[.int .i64 t, u] 31)) hx1 run_has1
  (fun q hq w' kk => has1_any F G q (u, (t, k)) _ w' (y04 h0 kk) (y04 h1 kk) ((hx1.rows q hq).keeps kk (fun _ _ h => h)) (ho1.keeps kk (fun _ _ h => h))))
 have HK := xhd hk
 dsimp only at HI ⊢
 obtain ⟨b, hbe⟩ : ∃ b, b = (y02 ps).any (fun z => decide ((t, k) = z)) := ⟨_, rfl⟩
 rw [← hbe] at HI ⊢
 clear hx ho hk hb h0 h1 hx1 ho1 hbe
 go_enter Tryz.func235, Tryz.ntmps235
 go_wp2_with fail
 refine HI.out.mono ?_
 rintro e w1 ⟨rfl, hk⟩
 have HK1 := xhd (HK.out.trans hk)
 clear hk HI HK
 go_wp2_with fail
 go_ret
 exact ⟨rfl, HK1.out⟩
namespace Pure
def Rule.offerP (r : Rule) (b : List UInt8) : Option (List UInt8) :=
 if (r.how = 2 ∨ r.how = 4) ∧ 1 ≤ r.len ∧ r.len ≤ 4 then some (wide (if r.numbered b then r.nearTo (bnum b) else r.hi.toNat) r.len.toNat)
 else if r.how = 3 then some r.want else none
def Rule.heedP (r : Rule) (b : List UInt8) : Option (List UInt8) :=
 if r.how = 1 then some b else if (r.how = 2 ∨ r.how = 4) ∧ r.numbered b then some (wide (r.nearTo (bnum b)) r.len.toNat) else none
theorem offerP_some (r : Rule) (b : List UInt8) : (r.offerP b).isSome = (r.offers b).isSome := by
 unfold Rule.offerP Rule.offers
 by_cases h2 : r.how = 2
 ·by_cases hl : 1 ≤ r.len ∧ r.len ≤ 4
  ·simp [h2, hl]
  ·simp [h2, hl]
 ·by_cases h3 : r.how = 3
  ·simp [h3]
  ·by_cases h4 : r.how = 4
   ·by_cases hl : 1 ≤ r.len ∧ r.len ≤ 4
    ·simp [h4, hl]
    ·simp [h4, hl]
   ·simp [h2, h3, h4]
theorem offerP_bad {r : Rule} {b : List UInt8} (hM : r.Ok) (h : ¬ r.fits b) : (r.offers b).map Prod.snd = r.offerP b := by
 unfold Rule.offerP Rule.offers
 by_cases h2 : r.how = 2
 ·by_cases hl : 1 ≤ r.len ∧ r.len ≤ 4
  ·rw [if_pos (show r.how = 2 ∧ 1 ≤ r.len ∧ r.len ≤ 4 from ⟨h2, hl⟩), if_pos (show (r.how = 2 ∨ r.how = 4) ∧ 1 ≤ r.len ∧ r.len ≤ 4 from ⟨.inl h2, hl⟩)]
   show some _ = some _
   congr 2
   by_cases hn : r.numbered b
   ·rw [if_pos hn]
    obtain ⟨m1, m2, m3⟩ := hM hl.1 hl.2
    have hf : ¬ (r.lo ≤ bnum b ∧ bnum b ≤ r.hi) := fun hh => h (.inr (.inl ⟨h2, hn, hh.1, hh.2⟩))
    unfold Rule.nearTo
    rw [if_neg (show ¬ r.how = 4 by omega)]
    by_cases hlo : (bnum b : Int) < r.lo
    ·rw [if_pos (show r.numbered b ∧ (bnum b : Int) < r.lo from ⟨hn, hlo⟩)]; show wide _ _ = wide _ _; congr 1; omega
    ·rw [if_neg (show ¬ (r.numbered b ∧ (bnum b : Int) < r.lo) from fun hh => hlo hh.2)]; show wide _ _ = wide _ _; congr 1; omega
   ·rw [if_neg (fun hh => hn hh.1), if_neg hn]
  ·rw [if_neg (fun hh => hl hh.2), if_neg (by omega), if_neg (by omega), if_neg (fun hh => hl hh.2), if_neg (by omega)]
   rfl
 ·by_cases h3 : r.how = 3
  ·rw [if_neg (fun hh => h2 hh.1), if_pos h3, if_neg (by omega), if_pos h3]
   rfl
  ·by_cases h4 : r.how = 4
   ·by_cases hl : 1 ≤ r.len ∧ r.len ≤ 4
    ·rw [if_neg (fun hh => h2 hh.1), if_neg h3, if_pos (show r.how = 4 ∧ 1 ≤ r.len ∧ r.len ≤ 4 from ⟨h4, hl⟩), if_pos (show (r.how = 2 ∨ r.how = 4) ∧ 1 ≤ r.len ∧ r.len ≤ 4 from ⟨.inr h4, hl⟩)]
     show some _ = some _
     congr 2
     unfold Rule.nearTo
     rw [if_pos h4]
    ·rw [if_neg (fun hh => h2 hh.1), if_neg h3, if_neg (fun hh => hl hh.2), if_neg (fun hh => hl hh.2), if_neg h3]
     rfl
   ·rw [if_neg (fun hh => h2 hh.1), if_neg h3, if_neg (fun hh => h4 hh.1), if_neg (by omega), if_neg h3]
    rfl
theorem offerP_nil {r : Rule} : (r.offers []).map Prod.snd = r.offerP [] := by
 unfold Rule.offerP Rule.offers
 have hn : 1 ≤ r.len → ¬ r.numbered [] := fun h hh => by have := hh.2.2; simp at this; omega
 by_cases h2 : r.how = 2
 ·by_cases hl : 1 ≤ r.len ∧ r.len ≤ 4
  ·rw [if_pos (show r.how = 2 ∧ 1 ≤ r.len ∧ r.len ≤ 4 from ⟨h2, hl⟩), if_pos (show (r.how = 2 ∨ r.how = 4) ∧ 1 ≤ r.len ∧ r.len ≤ 4 from ⟨.inl h2, hl⟩), if_neg (fun hh => hn hl.1 hh.1), if_neg (hn hl.1)]
   rfl
  ·rw [if_neg (fun hh => hl hh.2), if_neg (by omega), if_neg (by omega), if_neg (fun hh => hl hh.2), if_neg (by omega)]
   rfl
 ·by_cases h3 : r.how = 3
  ·rw [if_neg (fun hh => h2 hh.1), if_pos h3, if_neg (by omega), if_pos h3]
   rfl
  ·by_cases h4 : r.how = 4
   ·by_cases hl : 1 ≤ r.len ∧ r.len ≤ 4
    ·rw [if_neg (fun hh => h2 hh.1), if_neg h3, if_pos (show r.how = 4 ∧ 1 ≤ r.len ∧ r.len ≤ 4 from ⟨h4, hl⟩), if_pos (show (r.how = 2 ∨ r.how = 4) ∧ 1 ≤ r.len ∧ r.len ≤ 4 from ⟨.inr h4, hl⟩), if_neg (hn hl.1), if_neg (hn hl.1)]
     rfl
    ·rw [if_neg (fun hh => h2 hh.1), if_neg h3, if_neg (fun hh => hl hh.2), if_neg (fun hh => hl hh.2), if_neg h3]
     rfl
   ·rw [if_neg (fun hh => h2 hh.1), if_neg h3, if_neg (fun hh => h4 hh.1), if_neg (by omega), if_neg h3]
    rfl
theorem Rule.near_lt {r : Rule} {b : List UInt8} (hM : r.Ok) (hn : r.numbered b) : r.nearTo (bnum b) < 4294967296 := by
 obtain ⟨m1, m2, m3⟩ := hM hn.1 hn.2.1
 unfold Rule.nearTo
 split
 ·have : bnum b &&& r.hi.toNat ≤ r.hi.toNat := Nat.and_le_right
  omega
 ·omega
end Pure
def Offs (w : World) (e : Ending) (w' : World) : Option (List UInt8) → Prop
 | none => e = .returned (.tuple #[.slice none 0 0, .bool false]) ∧ Keeps y01 w w'
 | some d => ∃ A c, e = .returned (.tuple #[.slice A d.length c, .bool true]) ∧ Row w' (fun b => w.heap.size ≤ b) 1 (.slice A d.length c) d.length (u8s d) ∧ Keeps y01 w w'
theorem y5o {w w' : World} {A : Option Addr} {n c : Nat} {d : List UInt8} (hn : d.length = n) (hr : Row w' (fun b => w.heap.size ≤ b) 1 (.slice A n c) n (u8s d)) (hk : Keeps y01 w w') : Offs w (.returned (.tuple #[.slice A n c, .bool true])) w' (some d) := by
 subst hn
 exact ⟨A, c, rfl, hr, hk⟩
theorem ycq (n : Nat) (k : Int) (W : World) (hn : n < 4294967296) (h1 : 1 ≤ k) (h4 : k ≤ 4) :
  Calls Tryz.prog 92 #[.int .i64 (n : Int), .int .i64 k] W fun e w' => ∃ A c, e = .returned (.slice A k.toNat c) ∧ Row w' (fun b => W.heap.size ≤ b) 1 (.slice A k.toNat c) k.toNat (u8s (Pure.wide n k.toNat)) ∧ Keeps y01 W w' := by
 have h := y75 n k.toNat W (by omega) hn
 rw [Int.toNat_of_nonneg (by omega)] at h
 exact h
theorem offer_num (F : Nat → Prop) (v x : Value) (r : Pure.Rule) (l : List UInt8) (w : World) (hr : Row w F 1 x l.length (u8s l)) (h24 : r.how = 2 ∨ r.how = 4) (hM : r.Ok) :
  Calls Tryz.prog 187 #[y1i (v, r), x] w fun e w' => Offs w e w' (r.offerP l) := by
 obtain ⟨A, c, rfl, _⟩ := hr.form
 have hb := Blk.new w 122 (y0a (v, r)).toArray
 have hk0 := (Keeps.refl y01 w).alloc (.cells (y0a (v, r)).toArray 122)
 have HK0 := xhd hk0
 have HC0 := xhd (fun j u (h : (y0a (v, r))[j]? = some u) => show (w.alloc (.cells (y0a (v, r)).toArray 122)).cell? ⟨w.heap.size, j, none⟩ = some u by rw [hb.cell, List.getElem?_toArray]; exact h)
 have q3 : (r.how == 3) = false := by rw [beq_eq_false_iff_ne]; omega
 have HCT := xhd (yaw v r (w.alloc (.cells (y0a (v, r)).toArray 122)))
 have H24 := xhd h24
 have h24 : (r.how == 2) = true ∨ ((r.how == 2) = false ∧ (r.how == 4) = true) := by
  rcases h24 with h | h
  ·exact .inl (by rw [beq_iff_eq]; exact h)
  ·exact .inr ⟨by rw [beq_eq_false_iff_ne]; omega, by rw [beq_iff_eq]; exact h⟩
 clear hb hk0
 by_cases hl : 1 ≤ r.len ∧ r.len ≤ 4
 ·rw [decide_eq_true hl] at HCT
  have hm := hM hl.1 hl.2
  have HH := xhd (fun (W : World) => y8m v r A l.length c W hr.2.1)
  by_cases hn : r.numbered l
  ·have HO := xhd (show r.offerP l = some (Pure.wide (r.nearTo (Pure.bnum l)) r.len.toNat) by unfold Pure.Rule.offerP; rw [if_pos ⟨H24.out, hl⟩, if_pos hn])
   have CM := xhd (fun (W : World) (k : Keeps y01 w W) => y3z F (.slice A l.length c) l W (hr.keeps k (fun _ _ h => h)) (by have h := hn.2.1; have h' := hn.2.2; omega))
   have CN := xhd (fun (W : World) (_ : Keeps y01 w W) => yak v r (Pure.bnum l) W (Pure.bnum_small (by have h := hn.2.1; have h' := hn.2.2; omega)) hm)
   have HEN := xhd (fun W => ycq (r.nearTo (Pure.bnum l)) r.len W (Pure.Rule.near_lt hM hn) hl.1 hl.2)
   have HHT := xhd (show ∀ (W : World), Calls Tryz.prog 217 #[y1i (v, r), .slice A l.length c] W fun e w' => e = .returned (.bool true) ∧ Keeps y01 W w' from by
    have h := HH.out
    rw [decide_eq_true (show 1 ≤ r.len ∧ r.len ≤ 4 ∧ (l.length : Int) = r.len from hn)] at h
    exact h)
   clear hr HH hm hn hM
   rcases h24 with h2 | ⟨h2, h4⟩
   all_goals
    have z2 := HC0.out 2 _ rfl
    have z5 := HC0.out 5 _ rfl
    have z4 := HC0.out 4 _ rfl
    have z0 := HC0.out 0 _ rfl
    have z1 := HC0.out 1 _ rfl
    have z3 := HC0.out 3 _ rfl
    have z6 := HC0.out 6 _ rfl
    go_enter Tryz.func187, Tryz.ntmps187
    go_wp2_with fail
    refine HCT.out.mono ?_
    rintro e w' ⟨rfl, hkx⟩
    have HKx := xhd (HK0.out.trans hkx)
    have HSx := xhd (fun j u (h : (y0a (v, r))[j]? = some u) => y04 (HC0.out j u h) hkx)
    clear hkx z0 z1 z2 z3 z4 z5 z6
    have z2 := HSx.out 2 _ rfl
    have z5 := HSx.out 5 _ rfl
    have z4 := HSx.out 4 _ rfl
    have z0 := HSx.out 0 _ rfl
    have z1 := HSx.out 1 _ rfl
    have z3 := HSx.out 3 _ rfl
    have z6 := HSx.out 6 _ rfl
    go_wp2_with fail
    refine (HHT.out _).mono ?_
    rintro e w1 ⟨rfl, hk1⟩
    have HK1 := xhd (HKx.out.trans hk1)
    have HS1 := xhd (fun j u (h : (y0a (v, r))[j]? = some u) => y04 (HSx.out j u h) hk1)
    clear hk1 z0 z1 z2 z3 z4 z5 z6
    go_wp2_with fail
    refine y0b (fun w' => ∀ j u, (y0a (v, r))[j]? = some u → w'.cell? ⟨w.heap.size, j, none⟩ = some u) 4 5 rfl (by kernel_rfl) (fun j u h => HS1.out j u h) (fun hHeld => ?_)
    have HSW := hHeld
    clear hHeld
    have HK0d := xhd (HK1.out.drew)
    refine y00 (i := 0) rfl (by kernel_rfl) (fun _ _ _ h => h) (Or.inl ⟨by rfl, by intro w hSw; have c0 := hSw 0 _ rfl; have c1 := hSw 1 _ rfl; have c2 := hSw 2 _ rfl; have c3 := hSw 3 _ rfl; have c4 := hSw 4 _ rfl; have c5 := hSw 5 _ rfl; have c6 := hSw 6 _ rfl; go_simp; try with_reducible rfl⟩) HSW.out ?_
    simp only [Act.put, xqA, xqB, xqD, xqE, xqF]
    refine y00 (i := 1) rfl (by kernel_rfl) (fun _ _ _ h => h) (Or.inl ⟨by rfl, by intro w hSw; have c0 := hSw 0 _ rfl; have c1 := hSw 1 _ rfl; have c2 := hSw 2 _ rfl; have c3 := hSw 3 _ rfl; have c4 := hSw 4 _ rfl; have c5 := hSw 5 _ rfl; have c6 := hSw 6 _ rfl; go_simp; try with_reducible rfl⟩) HSW.out ?_
    simp only [Act.put, xqA, xqB, xqC, xqD, xqE, xqF]
    refine y03 (i := 2) (by kernel_rfl) rfl (fun K hK => ?_)
    try rw [if_pos (by rfl)]
    go_simp
    refine (CM.out _ HK0d.out).mono ?_
    rintro e w' ⟨rfl, rfl⟩
    refine hK.out _ _ (fun _ => HSW.out) ?_
    clear hK K
    try simp only [Act.put, xqA, Nat.reduceAdd, xqB, xqC, xqD, xqE, xqF]
    refine y03 (i := 3) (by kernel_rfl) rfl (fun K hK => ?_)
    try rw [if_pos (by rfl)]
    go_simp
    refine (CN.out _ HK0d.out).mono ?_
    rintro e w2 ⟨rfl, hk2⟩
    have HK2 := xhd (HK0d.out.trans hk2)
    have HS2 := xhd (fun j u (h : (y0a (v, r))[j]? = some u) => y04 (HSW.out j u h) hk2)
    clear hk2
    refine hK.out _ _ (fun _ => HS2.out) ?_
    clear hK K
    try simp only [Act.put, xqA, Nat.reduceAdd, xqB, xqC, xqD, xqE, xqF]
    refine y03 (i := 4) (by kernel_rfl) rfl (fun K hK => ?_)
    go_simp
    refine hK.out _ _ (fun h => absurd rfl h) ?_
    clear hK K
    refine y09 (by kernel_rfl) ?_ _
    have c1 := HS2.out 1 _ rfl
    go_wp2_with fail
    refine (HEN.out _).mono ?_
    rintro e w4 ⟨A4, cc4, rfl, hu4, hk4⟩
    have HK4 := xhd (HK2.out.trans hk4)
    have HU4 := xhd hu4
    clear hu4 hk4 c1
    go_wp2_with fail
    refine (y2g _ (.slice A4 r.len.toNat cc4) _ _ w4 HU4.out (by omega)).mono ?_
    rintro e w5 ⟨u5, rfl, hu5, hb5⟩
    obtain ⟨A5, cc5, rfl⟩ := y0c hu5
    have HU5 := xhd ((Row.of_own hu5).mono (G := fun b => w.heap.size ≤ b) (fun b hb => Nat.le_trans HK4.out.size (y0f hu5 b hb)))
    have HK5 := xhd (HK4.out.trans (Keeps.new hb5))
    clear hu5 hb5
    go_wp2_with fail
    go_ret2
    rw [HO.out]
    exact y5o (by rw [Pure.wide_length]) HU5.out HK5.out
  ·have HO := xhd (show r.offerP l = some (Pure.wide r.hi.toNat r.len.toNat) by unfold Pure.Rule.offerP; rw [if_pos ⟨H24.out, hl⟩, if_neg hn])
   have HEN := xhd (show ∀ W, Calls Tryz.prog 92 #[.int .i64 r.hi, .int .i64 r.len] W fun e w' => ∃ A c, e = .returned (.slice A r.len.toNat c) ∧ Row w' (fun b => W.heap.size ≤ b) 1 (.slice A r.len.toNat c) r.len.toNat (u8s (Pure.wide r.hi.toNat r.len.toNat)) ∧ Keeps y01 W w' from by
    intro W
    have h := ycq r.hi.toNat r.len W (by omega) hl.1 hl.2
    rw [Int.toNat_of_nonneg (show 0 ≤ r.hi by omega)] at h
    exact h)
   have HHT := xhd (show ∀ (W : World), Calls Tryz.prog 217 #[y1i (v, r), .slice A l.length c] W fun e w' => e = .returned (.bool false) ∧ Keeps y01 W w' from by
    have h := HH.out
    rw [decide_eq_false (show ¬ (1 ≤ r.len ∧ r.len ≤ 4 ∧ (l.length : Int) = r.len) from hn)] at h
    exact h)
   clear hr HH hm hn hM
   rcases h24 with h2 | ⟨h2, h4⟩
   all_goals
    have z2 := HC0.out 2 _ rfl
    have z5 := HC0.out 5 _ rfl
    have z4 := HC0.out 4 _ rfl
    have z0 := HC0.out 0 _ rfl
    have z1 := HC0.out 1 _ rfl
    have z3 := HC0.out 3 _ rfl
    have z6 := HC0.out 6 _ rfl
    go_enter Tryz.func187, Tryz.ntmps187
    go_wp2_with fail
    refine HCT.out.mono ?_
    rintro e w' ⟨rfl, hkx⟩
    have HKx := xhd (HK0.out.trans hkx)
    have HSx := xhd (fun j u (h : (y0a (v, r))[j]? = some u) => y04 (HC0.out j u h) hkx)
    clear hkx z0 z1 z2 z3 z4 z5 z6
    have z2 := HSx.out 2 _ rfl
    have z5 := HSx.out 5 _ rfl
    have z4 := HSx.out 4 _ rfl
    have z0 := HSx.out 0 _ rfl
    have z1 := HSx.out 1 _ rfl
    have z3 := HSx.out 3 _ rfl
    have z6 := HSx.out 6 _ rfl
    go_wp2_with fail
    refine (HHT.out _).mono ?_
    rintro e w1 ⟨rfl, hk1⟩
    have HK1 := xhd (HKx.out.trans hk1)
    have HS1 := xhd (fun j u (h : (y0a (v, r))[j]? = some u) => y04 (HSx.out j u h) hk1)
    clear hk1 z0 z1 z2 z3 z4 z5 z6
    have z1 := HS1.out 1 _ rfl
    have z2 := HS1.out 2 _ rfl
    have z4 := HS1.out 4 _ rfl
    have z0 := HS1.out 0 _ rfl
    have z3 := HS1.out 3 _ rfl
    have z5 := HS1.out 5 _ rfl
    have z6 := HS1.out 6 _ rfl
    go_wp2_with fail
    refine (HEN.out _).mono ?_
    rintro e w4 ⟨A4, cc4, rfl, hu4, hk4⟩
    have HK4 := xhd (HK1.out.trans hk4)
    have HU4 := xhd hu4
    clear hu4 hk4 z0 z1 z2 z3 z4 z5 z6
    go_wp2_with fail
    refine (y2g _ (.slice A4 r.len.toNat cc4) _ _ w4 HU4.out (by omega)).mono ?_
    rintro e w5 ⟨u5, rfl, hu5, hb5⟩
    obtain ⟨A5, cc5, rfl⟩ := y0c hu5
    have HU5 := xhd ((Row.of_own hu5).mono (G := fun b => w.heap.size ≤ b) (fun b hb => Nat.le_trans HK4.out.size (y0f hu5 b hb)))
    have HK5 := xhd (HK4.out.trans (Keeps.new hb5))
    clear hu5 hb5
    go_wp2_with fail
    go_ret2
    rw [HO.out]
    exact y5o (by rw [Pure.wide_length]) HU5.out HK5.out
 ·rw [decide_eq_false hl] at HCT
  have HO := xhd (show r.offerP l = none by unfold Pure.Rule.offerP; rw [if_neg (fun h => hl h.2), if_neg (by have := H24.out; omega)])
  clear hr hM hl
  rcases h24 with h2 | ⟨h2, h4⟩
  all_goals
   have z2 := HC0.out 2 _ rfl
   have z5 := HC0.out 5 _ rfl
   have z4 := HC0.out 4 _ rfl
   have z0 := HC0.out 0 _ rfl
   have z1 := HC0.out 1 _ rfl
   have z3 := HC0.out 3 _ rfl
   have z6 := HC0.out 6 _ rfl
   go_enter Tryz.func187, Tryz.ntmps187
   go_wp2_with fail
   refine HCT.out.mono ?_
   rintro e w' ⟨rfl, hkx⟩
   have HKx := xhd (HK0.out.trans hkx)
   clear hkx z0 z1 z2 z3 z4 z5 z6
   go_wp2_with fail
   go_ret2
   rw [HO.out]
   exact ⟨rfl, HKx.out⟩
theorem yg8 (v x : Value) (r : Pure.Rule) (l : List UInt8) (w : World) (h2 : r.how ≠ 2) (h3 : r.how ≠ 3) (h4 : r.how ≠ 4) :
  Calls Tryz.prog 187 #[y1i (v, r), x] w fun e w' => Offs w e w' (r.offerP l) := by
 have HK0 := xhd ((Keeps.refl y01 w).alloc (.cells (y0a (v, r)).toArray 122))
 have HO := xhd (show r.offerP l = none by unfold Pure.Rule.offerP; rw [if_neg (by omega), if_neg h3])
 have q2 : (r.how == 2) = false := by rw [beq_eq_false_iff_ne]; exact h2
 have q3 : (r.how == 3) = false := by rw [beq_eq_false_iff_ne]; exact h3
 have q4 : (r.how == 4) = false := by rw [beq_eq_false_iff_ne]; exact h4
 clear h2 h3 h4
 go_enter Tryz.func187, Tryz.ntmps187
 go_wp2_with fail
 go_ret2
 rw [HO.out]
 exact ⟨rfl, HK0.out⟩
theorem yg9 (G : Nat → Prop) (v x : Value) (r : Pure.Rule) (l : List UInt8) (w : World) (hv : Row w G 1 v r.want.length (u8s r.want)) (hw : r.want.length ≤ 1000000) (h3 : r.how = 3) :
  Calls Tryz.prog 187 #[y1i (v, r), x] w fun e w' => Offs w e w' (r.offerP l) := by
 obtain ⟨B, d, rfl, _⟩ := hv.form
 have hk0 := (Keeps.refl y01 w).alloc (.cells (y0a (.slice B r.want.length d, r)).toArray 122)
 have HK0 := xhd hk0
 have HB := xhd (y2g G (.slice B r.want.length d) _ r.want _ (hv.keeps hk0 (fun _ _ h => h)) (by omega))
 have HO := xhd (show r.offerP l = some r.want by unfold Pure.Rule.offerP; rw [if_neg (by omega), if_pos h3])
 have q2 : (r.how == 2) = false := by rw [beq_eq_false_iff_ne]; omega
 have q3 : (r.how == 3) = true := by rw [beq_iff_eq]; exact h3
 have q4 : (r.how == 4) = false := by rw [beq_eq_false_iff_ne]; omega
 clear h3 hv hk0
 go_enter Tryz.func187, Tryz.ntmps187
 go_wp2_with fail
 refine HB.out.mono ?_
 rintro e w5 ⟨u5, rfl, hu5, hb5⟩
 obtain ⟨A5, cc5, rfl⟩ := y0c hu5
 have HU5 := xhd ((Row.of_own hu5).mono (G := fun b => w.heap.size ≤ b) (fun b hb => Nat.le_trans HK0.out.size (y0f hu5 b hb)))
 have HK5 := xhd (HK0.out.trans (Keeps.new hb5))
 clear hu5 hb5 HB
 go_wp2_with fail
 go_ret2
 rw [HO.out]
 exact y5o rfl HU5.out HK5.out
theorem y8t (F G : Nat → Prop) (v x : Value) (r : Pure.Rule) (l : List UInt8) (w : World) (hr : Row w F 1 x l.length (u8s l)) (hv : Row w G 1 v r.want.length (u8s r.want)) (hw : r.want.length ≤ 1000000) (hM : r.Ok) :
  Calls Tryz.prog 187 #[y1i (v, r), x] w fun e w' => Offs w e w' (r.offerP l) := by
 by_cases h3 : r.how = 3
 ·exact yg9 G v x r l w hv hw h3
 by_cases h24 : r.how = 2 ∨ r.how = 4
 ·exact offer_num F v x r l w hr h24 hM
 ·exact yg8 v x r l w (fun h => h24 (.inl h)) h3 (fun h => h24 (.inr h))
theorem heed_num (F : Nat → Prop) (v x : Value) (r : Pure.Rule) (l : List UInt8) (w : World) (hr : Row w F 1 x l.length (u8s l)) (h24 : r.how = 2 ∨ r.how = 4) (hM : r.Ok) :
  Calls Tryz.prog 236 #[y1i (v, r), x] w fun e w' => Offs w e w' (r.heedP l) := by
 obtain ⟨A, c, rfl, _⟩ := hr.form
 have hb := Blk.new w 122 (y0a (v, r)).toArray
 have hk0 := (Keeps.refl y01 w).alloc (.cells (y0a (v, r)).toArray 122)
 have HK0 := xhd hk0
 have HC0 := xhd (fun j u (h : (y0a (v, r))[j]? = some u) => show (w.alloc (.cells (y0a (v, r)).toArray 122)).cell? ⟨w.heap.size, j, none⟩ = some u by rw [hb.cell, List.getElem?_toArray]; exact h)
 have q1 : (r.how == 1) = false := by rw [beq_eq_false_iff_ne]; omega
 have H24 := xhd h24
 have h24 : (r.how == 2) = true ∨ ((r.how == 2) = false ∧ (r.how == 4) = true) := by
  rcases h24 with h | h
  ·exact .inl (by rw [beq_iff_eq]; exact h)
  ·exact .inr ⟨by rw [beq_eq_false_iff_ne]; omega, by rw [beq_iff_eq]; exact h⟩
 have HH := xhd (fun (W : World) => y8m v r A l.length c W hr.2.1)
 clear hb hk0
 by_cases hn : r.numbered l
 ·have HO := xhd (show r.heedP l = some (Pure.wide (r.nearTo (Pure.bnum l)) r.len.toNat) by unfold Pure.Rule.heedP; rw [if_neg (by have := H24.out; omega), if_pos ⟨H24.out, hn⟩])
  have CM := xhd (fun (W : World) (k : Keeps y01 w W) => y3z F (.slice A l.length c) l W (hr.keeps k (fun _ _ h => h)) (by have h := hn.2.1; have h' := hn.2.2; omega))
  have CN := xhd (fun (W : World) (_ : Keeps y01 w W) => yak v r (Pure.bnum l) W (Pure.bnum_small (by have h := hn.2.1; have h' := hn.2.2; omega)) (hM hn.1 hn.2.1))
  have HEN := xhd (fun W => ycq (r.nearTo (Pure.bnum l)) r.len W (Pure.Rule.near_lt hM hn) hn.1 hn.2.1)
  have HHT := xhd (show ∀ (W : World), Calls Tryz.prog 217 #[y1i (v, r), .slice A l.length c] W fun e w' => e = .returned (.bool true) ∧ Keeps y01 W w' from by
   have h := HH.out
   rw [decide_eq_true (show 1 ≤ r.len ∧ r.len ≤ 4 ∧ (l.length : Int) = r.len from hn)] at h
   exact h)
  clear hr HH hn hM
  rcases h24 with h2 | ⟨h2, h4⟩
  all_goals
   have z2 := HC0.out 2 _ rfl
   have z5 := HC0.out 5 _ rfl
   have z4 := HC0.out 4 _ rfl
   have z0 := HC0.out 0 _ rfl
   have z1 := HC0.out 1 _ rfl
   have z3 := HC0.out 3 _ rfl
   have z6 := HC0.out 6 _ rfl
   go_enter Tryz.func236, Tryz.ntmps236
   go_wp2_with fail
   refine (HHT.out _).mono ?_
   rintro e w1 ⟨rfl, hk1⟩
   have HK1 := xhd (HK0.out.trans hk1)
   have HS1 := xhd (fun j u (h : (y0a (v, r))[j]? = some u) => y04 (HC0.out j u h) hk1)
   clear hk1 z0 z1 z2 z3 z4 z5 z6
   go_wp2_with fail
   refine y0b (fun w' => ∀ j u, (y0a (v, r))[j]? = some u → w'.cell? ⟨w.heap.size, j, none⟩ = some u) 8 9 rfl (by kernel_rfl) (fun j u h => HS1.out j u h) (fun hHeld => ?_)
   have HSW := hHeld
   clear hHeld
   have HK0d := xhd (HK1.out.drew)
   refine y00 (i := 0) rfl (by kernel_rfl) (fun _ _ _ h => h) (Or.inl ⟨by rfl, by intro w hSw; have c0 := hSw 0 _ rfl; have c1 := hSw 1 _ rfl; have c2 := hSw 2 _ rfl; have c3 := hSw 3 _ rfl; have c4 := hSw 4 _ rfl; have c5 := hSw 5 _ rfl; have c6 := hSw 6 _ rfl; go_simp; try with_reducible rfl⟩) HSW.out ?_
   simp only [Act.put, xqA, xqB, xqD, xqE, xqF]
   refine y00 (i := 1) rfl (by kernel_rfl) (fun _ _ _ h => h) (Or.inl ⟨by rfl, by intro w hSw; have c0 := hSw 0 _ rfl; have c1 := hSw 1 _ rfl; have c2 := hSw 2 _ rfl; have c3 := hSw 3 _ rfl; have c4 := hSw 4 _ rfl; have c5 := hSw 5 _ rfl; have c6 := hSw 6 _ rfl; go_simp; try with_reducible rfl⟩) HSW.out ?_
   simp only [Act.put, xqA, xqB, xqC, xqD, xqE, xqF]
   refine y00 (i := 4) rfl (by kernel_rfl) (fun _ _ _ h => h) (Or.inl ⟨by rfl, by intro w hSw; have c0 := hSw 0 _ rfl; have c1 := hSw 1 _ rfl; have c2 := hSw 2 _ rfl; have c3 := hSw 3 _ rfl; have c4 := hSw 4 _ rfl; have c5 := hSw 5 _ rfl; have c6 := hSw 6 _ rfl; go_simp; try with_reducible rfl⟩) HSW.out ?_
   simp only [Act.put, xqA, xqB, xqC, xqD, xqE, xqF]
   refine y00 (i := 5) rfl (by kernel_rfl) (fun _ _ _ h => h) (Or.inl ⟨by rfl, by intro w hSw; have c0 := hSw 0 _ rfl; have c1 := hSw 1 _ rfl; have c2 := hSw 2 _ rfl; have c3 := hSw 3 _ rfl; have c4 := hSw 4 _ rfl; have c5 := hSw 5 _ rfl; have c6 := hSw 6 _ rfl; go_simp; try with_reducible rfl⟩) HSW.out ?_
   simp only [Act.put, xqA, xqB, xqC, xqD, xqE, xqF]
   refine y03 (i := 2) (by kernel_rfl) rfl (fun K hK => ?_)
   try rw [if_pos (by rfl)]
   go_simp
   refine (CM.out _ HK0d.out).mono ?_
   rintro e w' ⟨rfl, rfl⟩
   refine hK.out _ _ (fun _ => HSW.out) ?_
   clear hK K
   try simp only [Act.put, xqA, Nat.reduceAdd, xqB, xqC, xqD, xqE, xqF]
   refine y03 (i := 3) (by kernel_rfl) rfl (fun K hK => ?_)
   try rw [if_pos (by rfl)]
   go_simp
   refine (CN.out _ HK0d.out).mono ?_
   rintro e w2 ⟨rfl, hk2⟩
   have HK2 := xhd (HK0d.out.trans hk2)
   have HS2 := xhd (fun j u (h : (y0a (v, r))[j]? = some u) => y04 (HSW.out j u h) hk2)
   clear hk2
   refine hK.out _ _ (fun _ => HS2.out) ?_
   clear hK K
   try simp only [Act.put, xqA, Nat.reduceAdd, xqB, xqC, xqD, xqE, xqF]
   refine y03 (i := 6) (by kernel_rfl) rfl (fun K hK => ?_)
   try rw [if_pos (by rfl)]
   go_simp
   refine (HEN.out _).mono ?_
   rintro e w4 ⟨A4, cc4, rfl, hu4, hk4⟩
   have HU4 := xhd (hu4.mono (G := fun b => w.heap.size ≤ b) (fun b hb => Nat.le_trans HK2.out.size hb))
   have HK4 := xhd (HK2.out.trans hk4)
   have HS4 := xhd (fun j u (h : (y0a (v, r))[j]? = some u) => y04 (HS2.out j u h) hk4)
   clear hu4 hk4
   refine hK.out _ _ (fun _ => HS4.out) ?_
   clear hK K
   try simp only [Act.put, xqA, Nat.reduceAdd, xqB, xqC, xqD, xqE, xqF]
   refine y00 (i := 7) rfl (by kernel_rfl) (fun _ _ _ h => h) (Or.inl ⟨by rfl, by intro w hSw; have c0 := hSw 0 _ rfl; have c1 := hSw 1 _ rfl; have c2 := hSw 2 _ rfl; have c3 := hSw 3 _ rfl; have c4 := hSw 4 _ rfl; have c5 := hSw 5 _ rfl; have c6 := hSw 6 _ rfl; go_simp; try with_reducible rfl⟩) HS4.out ?_
   simp only [Act.put, xqA, xqB, xqC, xqD, xqE, xqF]
   refine y03 (i := 8) (by kernel_rfl) rfl (fun K hK => ?_)
   go_simp
   refine hK.out _ _ (fun h => absurd rfl h) ?_
   clear hK K
   refine y09 (by kernel_rfl) ?_ _
   go_wp2_with fail
   go_ret2
   rw [HO.out]
   exact y5o (by rw [Pure.wide_length]) HU4.out HK4.out
 ·have HO := xhd (show r.heedP l = none by unfold Pure.Rule.heedP; rw [if_neg (by have := H24.out; omega), if_neg (fun h => hn h.2)])
  have HHT := xhd (show ∀ (W : World), Calls Tryz.prog 217 #[y1i (v, r), .slice A l.length c] W fun e w' => e = .returned (.bool false) ∧ Keeps y01 W w' from by
   have h := HH.out
   rw [decide_eq_false (show ¬ (1 ≤ r.len ∧ r.len ≤ 4 ∧ (l.length : Int) = r.len) from hn)] at h
   exact h)
  clear hr HH hn hM
  rcases h24 with h2 | ⟨h2, h4⟩
  all_goals
   have z2 := HC0.out 2 _ rfl
   have z5 := HC0.out 5 _ rfl
   have z4 := HC0.out 4 _ rfl
   have z0 := HC0.out 0 _ rfl
   have z1 := HC0.out 1 _ rfl
   have z3 := HC0.out 3 _ rfl
   have z6 := HC0.out 6 _ rfl
   go_enter Tryz.func236, Tryz.ntmps236
   go_wp2_with fail
   refine (HHT.out _).mono ?_
   rintro e w1 ⟨rfl, hk1⟩
   have HK1 := xhd (HK0.out.trans hk1)
   clear hk1 z0 z1 z2 z3 z4 z5 z6
   go_wp2_with fail
   go_ret2
   rw [HO.out]
   exact ⟨rfl, HK1.out⟩
theorem heed_one (F : Nat → Prop) (v x : Value) (r : Pure.Rule) (l : List UInt8) (w : World) (hr : Row w F 1 x l.length (u8s l)) (hl : l.length ≤ 1000000) (h1 : r.how = 1) :
  Calls Tryz.prog 236 #[y1i (v, r), x] w fun e w' => Offs w e w' (r.heedP l) := by
 obtain ⟨B, d, rfl, _⟩ := hr.form
 have hk0 := (Keeps.refl y01 w).alloc (.cells (y0a (v, r)).toArray 122)
 have HK0 := xhd hk0
 have HB := xhd (y2g F (.slice B l.length d) _ l _ (hr.keeps hk0 (fun _ _ h => h)) (by omega))
 have HO := xhd (show r.heedP l = some l by unfold Pure.Rule.heedP; rw [if_pos h1])
 have q1 : (r.how == 1) = true := by rw [beq_iff_eq]; exact h1
 clear h1 hr hk0
 go_enter Tryz.func236, Tryz.ntmps236
 go_wp2_with fail
 refine HB.out.mono ?_
 rintro e w5 ⟨u5, rfl, hu5, hb5⟩
 obtain ⟨A5, cc5, rfl⟩ := y0c hu5
 have HU5 := xhd ((Row.of_own hu5).mono (G := fun b => w.heap.size ≤ b) (fun b hb => Nat.le_trans HK0.out.size (y0f hu5 b hb)))
 have HK5 := xhd (HK0.out.trans (Keeps.new hb5))
 clear hu5 hb5 HB
 go_wp2_with fail
 go_ret2
 rw [HO.out]
 exact y5o rfl HU5.out HK5.out
theorem heed_none (v x : Value) (r : Pure.Rule) (l : List UInt8) (w : World) (h1 : r.how ≠ 1) (h2 : r.how ≠ 2) (h4 : r.how ≠ 4) :
  Calls Tryz.prog 236 #[y1i (v, r), x] w fun e w' => Offs w e w' (r.heedP l) := by
 have HK0 := xhd ((Keeps.refl y01 w).alloc (.cells (y0a (v, r)).toArray 122))
 have HO := xhd (show r.heedP l = none by unfold Pure.Rule.heedP; rw [if_neg h1, if_neg (fun h => by rcases h.1 with h | h; exact h2 h; exact h4 h)])
 have q1 : (r.how == 1) = false := by rw [beq_eq_false_iff_ne]; exact h1
 have q2 : (r.how == 2) = false := by rw [beq_eq_false_iff_ne]; exact h2
 have q4 : (r.how == 4) = false := by rw [beq_eq_false_iff_ne]; exact h4
 clear h1 h2 h4
 go_enter Tryz.func236, Tryz.ntmps236
 go_wp2_with fail
 go_ret2
 rw [HO.out]
 exact ⟨rfl, HK0.out⟩
theorem heed_any (F : Nat → Prop) (v x : Value) (r : Pure.Rule) (l : List UInt8) (w : World) (hr : Row w F 1 x l.length (u8s l)) (hl : l.length ≤ 1000000) (hM : r.Ok) :
  Calls Tryz.prog 236 #[y1i (v, r), x] w fun e w' => Offs w e w' (r.heedP l) := by
 by_cases h1 : r.how = 1
 ·exact heed_one F v x r l w hr hl h1
 by_cases h24 : r.how = 2 ∨ r.how = 4
 ·exact heed_num F v x r l w hr h24 hM
 ·exact heed_none v x r l w h1 (fun h => h24 (.inl h)) (fun h => h24 (.inr h))
namespace Pure
theorem Rule.fits_two {r : Rule} {l : List UInt8} (h : r.how = 2) : r.fits l ↔ (r.numbered l ∧ r.lo ≤ bnum l ∧ bnum l ≤ r.hi) := by
 unfold Rule.fits
 rw [h]
 simp
theorem Rule.fits_four {r : Rule} {l : List UInt8} (h : r.how = 4) : r.fits l ↔ (r.numbered l ∧ bnum l &&& r.hi.toNat = bnum l) := by
 unfold Rule.fits
 rw [h]
 simp
theorem Rule.fits_near {r : Rule} {l : List UInt8} (h : r.how = 2 ∨ r.how = 4) (hM : r.Ok) : r.fits l ↔ (r.numbered l ∧ r.nearTo (bnum l) = bnum l) := by
 rcases h with h | h
 ·rw [fits_two h]
  refine and_congr_right fun hn => ?_
  obtain ⟨h1, h2, h3⟩ := hM hn.1 hn.2.1
  unfold nearTo
  rw [if_neg (by omega)]
  omega
 ·rw [fits_four h]
  refine and_congr_right fun hn => ?_
  unfold nearTo
  rw [if_pos h]
end Pure
theorem pfits_num (F : Nat → Prop) (v x : Value) (r : Pure.Rule) (l : List UInt8) (w : World) (hr : Row w F 1 x l.length (u8s l)) (h24 : r.how = 2 ∨ r.how = 4) (hM : r.Ok) :
  Calls Tryz.prog 189 #[y1i (v, r), x] w fun e w' => e = .returned (.bool (decide (r.fits l))) ∧ Keeps y01 w w' := by
 obtain ⟨A, c, rfl, _⟩ := hr.form
 have hb := Blk.new w 122 (y0a (v, r)).toArray
 have HK0 := xhd ((Keeps.refl y01 w).alloc (.cells (y0a (v, r)).toArray 122))
 have HC0 := xhd (fun j u (h : (y0a (v, r))[j]? = some u) => show (w.alloc (.cells (y0a (v, r)).toArray 122)).cell? ⟨w.heap.size, j, none⟩ = some u by rw [hb.cell, List.getElem?_toArray]; exact h)
 have c2 : (w.alloc (.cells (y0a (v, r)).toArray 122)).cell? ⟨w.heap.size, 2, none⟩ = some (.int .i64 r.how) := by rw [hb.cell]; rfl
 have q1 : (r.how == 1) = false := by rw [beq_eq_false_iff_ne]; omega
 have q3 : (r.how == 3) = false := by rw [beq_eq_false_iff_ne]; omega
 have HH := xhd (fun (W : World) (_ : Keeps y01 w W) => y8m v r A l.length c W hr.2.1)
 have HF := xhd (Pure.Rule.fits_near (l := l) h24 hM)
 have h24 : (r.how == 2) = true ∨ ((r.how == 2) = false ∧ (r.how == 4) = true) := by
  rcases h24 with h | h
  ·exact .inl (by rw [beq_iff_eq]; exact h)
  ·exact .inr ⟨by rw [beq_eq_false_iff_ne]; omega, by rw [beq_iff_eq]; exact h⟩
 clear hb
 by_cases hn : r.numbered l
 ·have CM := xhd (fun (W : World) (k : Keeps y01 w W) => y3z F (.slice A l.length c) l W (hr.keeps k (fun _ _ h => h)) (by have h := hn.2.1; have h' := hn.2.2; omega))
  have CN := xhd (fun (W : World) (_ : Keeps y01 w W) => yak v r (Pure.bnum l) W (Pure.bnum_small (by have h := hn.2.1; have h' := hn.2.2; omega)) (hM hn.1 hn.2.1))
  have CH := xhd (show ∀ (W : World), Keeps y01 w W → Calls Tryz.prog 217 #[y1i (v, r), .slice A l.length c] W fun e w' => e = .returned (.bool true) ∧ Keeps y01 W w' from by
   have h := HH.out
   rw [decide_eq_true (show 1 ≤ r.len ∧ r.len ≤ 4 ∧ (l.length : Int) = r.len from hn)] at h
   exact h)
  have HD := xhd (show decide (r.fits l) = (((r.nearTo (Pure.bnum l) : Nat) : Int) == ((Pure.bnum l : Nat) : Int)) by
   rw [show decide (r.fits l) = decide (r.nearTo (Pure.bnum l) = Pure.bnum l) from decide_eq_decide.2 (by rw [HF.out]; simp only [hn, true_and])]
   by_cases h : r.nearTo (Pure.bnum l) = Pure.bnum l
   ·rw [decide_eq_true h, h]; simp
   ·rw [decide_eq_false h]; symm; rw [beq_eq_false_iff_ne]; omega)
  clear hr hn HH HF hM
  rcases h24 with h2 | ⟨h2, h4⟩
  all_goals
   go_enter Tryz.func189, Tryz.ntmps189
   go_wp2_with fail
   refine y0b (fun w' => ∀ j u, (y0a (v, r))[j]? = some u → w'.cell? ⟨w.heap.size, j, none⟩ = some u) 12 13 rfl (by kernel_rfl) (fun j u h => HC0.out j u h) (fun hHeld => ?_)
   have HSW := hHeld
   clear hHeld
   have HK0d := xhd (HK0.out.drew)
   refine y00 (i := 0) rfl (by kernel_rfl) (fun _ _ _ h => h) (Or.inl ⟨by rfl, by intro w hSw; have c0 := hSw 0 _ rfl; have c1 := hSw 1 _ rfl; have c2 := hSw 2 _ rfl; have c3 := hSw 3 _ rfl; have c4 := hSw 4 _ rfl; have c5 := hSw 5 _ rfl; have c6 := hSw 6 _ rfl; go_simp; try with_reducible rfl⟩) HSW.out ?_
   simp only [Act.put, xqA, xqB, xqD, xqE, xqF]
   refine y00 (i := 1) rfl (by kernel_rfl) (fun _ _ _ h => h) (Or.inl ⟨by rfl, by intro w hSw; have c0 := hSw 0 _ rfl; have c1 := hSw 1 _ rfl; have c2 := hSw 2 _ rfl; have c3 := hSw 3 _ rfl; have c4 := hSw 4 _ rfl; have c5 := hSw 5 _ rfl; have c6 := hSw 6 _ rfl; go_simp; try with_reducible rfl⟩) HSW.out ?_
   simp only [Act.put, xqA, xqB, xqC, xqD, xqE, xqF]
   refine y03 (i := 2) (by kernel_rfl) rfl (fun K hK => ?_)
   try rw [if_pos (by rfl)]
   go_simp
   refine (CH.out _ HK0d.out).mono ?_
   rintro e w1 ⟨rfl, hk1⟩
   have HK1 := xhd (HK0d.out.trans hk1)
   have HS1 := xhd (fun j u (h : (y0a (v, r))[j]? = some u) => y04 (HSW.out j u h) hk1)
   clear hk1
   refine hK.out _ _ (fun _ => HS1.out) ?_
   clear hK K
   try simp only [Act.put, xqA, Nat.reduceAdd, xqB, xqC, xqD, xqE, xqF]
   refine y00 (i := 3) rfl (by kernel_rfl) (fun _ _ _ h => h) (Or.inl ⟨by rfl, by intro w hSw; have c0 := hSw 0 _ rfl; have c1 := hSw 1 _ rfl; have c2 := hSw 2 _ rfl; have c3 := hSw 3 _ rfl; have c4 := hSw 4 _ rfl; have c5 := hSw 5 _ rfl; have c6 := hSw 6 _ rfl; go_simp; try with_reducible rfl⟩) HS1.out ?_
   simp only [Act.put, xqA, xqB, xqC, xqD, xqE, xqF]
   refine y00 (i := 4) rfl (by kernel_rfl) (fun _ _ _ h => h) (Or.inl ⟨by rfl, by intro w hSw; have c0 := hSw 0 _ rfl; have c1 := hSw 1 _ rfl; have c2 := hSw 2 _ rfl; have c3 := hSw 3 _ rfl; have c4 := hSw 4 _ rfl; have c5 := hSw 5 _ rfl; have c6 := hSw 6 _ rfl; go_simp; try with_reducible rfl⟩) HS1.out ?_
   simp only [Act.put, xqA, xqB, xqC, xqD, xqE, xqF]
   refine y00 (i := 5) rfl (by kernel_rfl) (fun _ _ _ h => h) (Or.inl ⟨by rfl, by intro w hSw; have c0 := hSw 0 _ rfl; have c1 := hSw 1 _ rfl; have c2 := hSw 2 _ rfl; have c3 := hSw 3 _ rfl; have c4 := hSw 4 _ rfl; have c5 := hSw 5 _ rfl; have c6 := hSw 6 _ rfl; go_simp; try with_reducible rfl⟩) HS1.out ?_
   simp only [Act.put, xqA, xqB, xqC, xqD, xqE, xqF]
   refine y00 (i := 8) rfl (by kernel_rfl) (fun _ _ _ h => h) (Or.inl ⟨by rfl, by intro w hSw; have c0 := hSw 0 _ rfl; have c1 := hSw 1 _ rfl; have c2 := hSw 2 _ rfl; have c3 := hSw 3 _ rfl; have c4 := hSw 4 _ rfl; have c5 := hSw 5 _ rfl; have c6 := hSw 6 _ rfl; go_simp; try with_reducible rfl⟩) HS1.out ?_
   simp only [Act.put, xqA, xqB, xqC, xqD, xqE, xqF]
   refine y03 (i := 6) (by kernel_rfl) rfl (fun K hK => ?_)
   try rw [if_pos (by rfl)]
   go_simp
   refine (CM.out _ HK1.out).mono ?_
   rintro e w' ⟨rfl, rfl⟩
   refine hK.out _ _ (fun _ => HS1.out) ?_
   clear hK K
   try simp only [Act.put, xqA, Nat.reduceAdd, xqB, xqC, xqD, xqE, xqF]
   refine y03 (i := 7) (by kernel_rfl) rfl (fun K hK => ?_)
   try rw [if_pos (by rfl)]
   go_simp
   refine (CN.out _ HK1.out).mono ?_
   rintro e w2 ⟨rfl, hk2⟩
   have HK2 := xhd (HK1.out.trans hk2)
   have HS2 := xhd (fun j u (h : (y0a (v, r))[j]? = some u) => y04 (HS1.out j u h) hk2)
   clear hk2
   refine hK.out _ _ (fun _ => HS2.out) ?_
   clear hK K
   try simp only [Act.put, xqA, Nat.reduceAdd, xqB, xqC, xqD, xqE, xqF]
   refine y03 (i := 9) (by kernel_rfl) rfl (fun K hK => ?_)
   try rw [if_pos (by rfl)]
   go_simp
   refine (CM.out _ HK2.out).mono ?_
   rintro e w' ⟨rfl, rfl⟩
   refine hK.out _ _ (fun _ => HS2.out) ?_
   clear hK K
   try simp only [Act.put, xqA, Nat.reduceAdd, xqB, xqC, xqD, xqE, xqF]
   refine y00 (i := 10) rfl (by kernel_rfl) (fun _ _ _ h => h) (Or.inl ⟨by rfl, by intro w hSw; have c0 := hSw 0 _ rfl; have c1 := hSw 1 _ rfl; have c2 := hSw 2 _ rfl; have c3 := hSw 3 _ rfl; have c4 := hSw 4 _ rfl; have c5 := hSw 5 _ rfl; have c6 := hSw 6 _ rfl; go_simp; try with_reducible rfl⟩) HS2.out ?_
   simp only [Act.put, xqA, xqB, xqC, xqD, xqE, xqF]
   refine y00 (i := 11) rfl (by kernel_rfl) (fun _ _ _ h => h) (Or.inl ⟨by rfl, by intro w hSw; have c0 := hSw 0 _ rfl; have c1 := hSw 1 _ rfl; have c2 := hSw 2 _ rfl; have c3 := hSw 3 _ rfl; have c4 := hSw 4 _ rfl; have c5 := hSw 5 _ rfl; have c6 := hSw 6 _ rfl; go_simp; try with_reducible rfl⟩) HS2.out ?_
   simp only [Act.put, xqA, xqB, xqC, xqD, xqE, xqF]
   refine y03 (i := 12) (by kernel_rfl) rfl (fun K hK => ?_)
   go_simp
   refine hK.out _ _ (fun h => absurd rfl h) ?_
   clear hK K
   refine y09 (by kernel_rfl) ?_ _
   go_wp2
   go_ret
   exact ⟨by rw [HD.out]; rfl, HK2.out⟩
 ·have CH := xhd (show ∀ (W : World), Keeps y01 w W → Calls Tryz.prog 217 #[y1i (v, r), .slice A l.length c] W fun e w' => e = .returned (.bool false) ∧ Keeps y01 W w' from by
   have h := HH.out
   rw [decide_eq_false (show ¬ (1 ≤ r.len ∧ r.len ≤ 4 ∧ (l.length : Int) = r.len) from hn)] at h
   exact h)
  have HD := xhd (show decide (r.fits l) = false from decide_eq_false (fun h => hn (HF.out.1 h).1))
  clear hr hn HH HF hM
  rcases h24 with h2 | ⟨h2, h4⟩
  all_goals
   go_enter Tryz.func189, Tryz.ntmps189
   go_wp2_with fail
   refine y0b (fun w' => ∀ j u, (y0a (v, r))[j]? = some u → w'.cell? ⟨w.heap.size, j, none⟩ = some u) 12 13 rfl (by kernel_rfl) (fun j u h => HC0.out j u h) (fun hHeld => ?_)
   have HSW := hHeld
   clear hHeld
   have HK0d := xhd (HK0.out.drew)
   refine y00 (i := 0) rfl (by kernel_rfl) (fun _ _ _ h => h) (Or.inl ⟨by rfl, by intro w hSw; have c0 := hSw 0 _ rfl; have c1 := hSw 1 _ rfl; have c2 := hSw 2 _ rfl; have c3 := hSw 3 _ rfl; have c4 := hSw 4 _ rfl; have c5 := hSw 5 _ rfl; have c6 := hSw 6 _ rfl; go_simp; try with_reducible rfl⟩) HSW.out ?_
   simp only [Act.put, xqA, xqB, xqD, xqE, xqF]
   refine y00 (i := 1) rfl (by kernel_rfl) (fun _ _ _ h => h) (Or.inl ⟨by rfl, by intro w hSw; have c0 := hSw 0 _ rfl; have c1 := hSw 1 _ rfl; have c2 := hSw 2 _ rfl; have c3 := hSw 3 _ rfl; have c4 := hSw 4 _ rfl; have c5 := hSw 5 _ rfl; have c6 := hSw 6 _ rfl; go_simp; try with_reducible rfl⟩) HSW.out ?_
   simp only [Act.put, xqA, xqB, xqC, xqD, xqE, xqF]
   refine y03 (i := 2) (by kernel_rfl) rfl (fun K hK => ?_)
   try rw [if_pos (by rfl)]
   go_simp
   refine (CH.out _ HK0d.out).mono ?_
   rintro e w1 ⟨rfl, hk1⟩
   have HK1 := xhd (HK0d.out.trans hk1)
   have HS1 := xhd (fun j u (h : (y0a (v, r))[j]? = some u) => y04 (HSW.out j u h) hk1)
   clear hk1
   refine hK.out _ _ (fun _ => HS1.out) ?_
   clear hK K
   try simp only [Act.put, xqA, Nat.reduceAdd, xqB, xqC, xqD, xqE, xqF]
   refine y00 (i := 3) rfl (by kernel_rfl) (fun _ _ _ h => h) (Or.inl ⟨by rfl, by intro w hSw; have c0 := hSw 0 _ rfl; have c1 := hSw 1 _ rfl; have c2 := hSw 2 _ rfl; have c3 := hSw 3 _ rfl; have c4 := hSw 4 _ rfl; have c5 := hSw 5 _ rfl; have c6 := hSw 6 _ rfl; go_simp; try with_reducible rfl⟩) HS1.out ?_
   simp only [Act.put, xqA, xqB, xqC, xqD, xqE, xqF]
   refine y00 (i := 4) rfl (by kernel_rfl) (fun _ _ _ h => h) (Or.inr ⟨by rfl, rfl⟩) HS1.out ?_
   simp only [Act.put, xqA, xqB, xqC, xqD, xqE, xqF]
   refine y00 (i := 5) rfl (by kernel_rfl) (fun _ _ _ h => h) (Or.inr ⟨by rfl, rfl⟩) HS1.out ?_
   simp only [Act.put, xqA, xqB, xqC, xqD, xqE, xqF]
   refine y00 (i := 8) rfl (by kernel_rfl) (fun _ _ _ h => h) (Or.inr ⟨by rfl, rfl⟩) HS1.out ?_
   simp only [Act.put, xqA, xqB, xqC, xqD, xqE, xqF]
   refine y03 (i := 6) (by kernel_rfl) rfl (fun K hK => ?_)
   rw [if_neg (by intro h; have h2 : false = true := h; cases h2)]
   refine hK.out _ _ (fun _ => HS1.out) ?_
   clear hK K
   try simp only [Act.put, xqA, xqB, xqC, xqD, xqE, xqF]
   refine y03 (i := 7) (by kernel_rfl) rfl (fun K hK => ?_)
   rw [if_neg (by intro h; have h2 : false = true := h; cases h2)]
   refine hK.out _ _ (fun _ => HS1.out) ?_
   clear hK K
   try simp only [Act.put, xqA, xqB, xqC, xqD, xqE, xqF]
   refine y03 (i := 9) (by kernel_rfl) rfl (fun K hK => ?_)
   rw [if_neg (by intro h; have h2 : false = true := h; cases h2)]
   refine hK.out _ _ (fun _ => HS1.out) ?_
   clear hK K
   try simp only [Act.put, xqA, xqB, xqC, xqD, xqE, xqF]
   refine y00 (i := 10) rfl (by kernel_rfl) (fun _ _ _ h => h) (Or.inr ⟨by rfl, rfl⟩) HS1.out ?_
   simp only [Act.put, xqA, xqB, xqC, xqD, xqE, xqF]
   refine y00 (i := 11) rfl (by kernel_rfl) (fun _ _ _ h => h) (Or.inl ⟨by rfl, by intro w hSw; have c0 := hSw 0 _ rfl; have c1 := hSw 1 _ rfl; have c2 := hSw 2 _ rfl; have c3 := hSw 3 _ rfl; have c4 := hSw 4 _ rfl; have c5 := hSw 5 _ rfl; have c6 := hSw 6 _ rfl; go_simp; try with_reducible rfl⟩) HS1.out ?_
   simp only [Act.put, xqA, xqB, xqC, xqD, xqE, xqF]
   refine y03 (i := 12) (by kernel_rfl) rfl (fun K hK => ?_)
   go_simp
   refine hK.out _ _ (fun h => absurd rfl h) ?_
   clear hK K
   refine y09 (by kernel_rfl) ?_ _
   go_wp2
   go_ret
   exact ⟨by rw [HD.out]; rfl, HK1.out⟩
theorem pfits_one (F : Nat → Prop) (v x : Value) (r : Pure.Rule) (l : List UInt8) (w : World) (hr : Row w F 1 x l.length (u8s l)) (h1 : r.how = 1) :
  Calls Tryz.prog 189 #[y1i (v, r), x] w fun e w' => e = .returned (.bool (decide (r.fits l))) ∧ Keeps y01 w w' := by
 obtain ⟨A, c, rfl, _⟩ := hr.form
 have hm := hr.2.1
 unfold maxLen at hm
 have HK0 := xhd ((Keeps.refl y01 w).alloc (.cells (y0a (v, r)).toArray 122))
 have q1 : (r.how == 1) = true := by rw [beq_iff_eq]; exact h1
 have hf : r.fits l ↔ (r.len < 0 ∨ (l.length : Int) = r.len) := by
  unfold Pure.Rule.fits
  rw [h1]
  simp
 clear hr h1
 by_cases hl : r.len < 0
 ·have d1 : decide (r.len < 0) = true := decide_eq_true hl
  have HD := xhd (show decide (r.fits l) = true from decide_eq_true (hf.2 (.inl hl)))
  clear hf hl
  go_enter Tryz.func189, Tryz.ntmps189
  go_wp2_with fail
  go_ret
  exact ⟨by rw [HD.out]; rfl, HK0.out⟩
 ·have d1 : decide (r.len < 0) = false := decide_eq_false hl
  have HD := xhd (show decide (r.fits l) = ((l.length : Int) == r.len) by
   by_cases h : (l.length : Int) = r.len
   ·rw [decide_eq_true (hf.2 (.inr h)), h]; simp
   ·rw [decide_eq_false (fun x => h ((hf.1 x).resolve_left hl))]; symm; rw [beq_eq_false_iff_ne]; exact h)
  clear hf hl
  go_enter Tryz.func189, Tryz.ntmps189
  go_wp2_with fail
  go_ret
  exact ⟨by rw [HD.out]; rfl, HK0.out⟩
theorem yhj (F G : Nat → Prop) (v x : Value) (r : Pure.Rule) (l : List UInt8) (w : World) (hr : Row w F 1 x l.length (u8s l)) (hv : Row w G 1 v r.want.length (u8s r.want)) (h3 : r.how = 3) :
  Calls Tryz.prog 189 #[y1i (v, r), x] w fun e w' => e = .returned (.bool (decide (r.fits l))) ∧ Keeps y01 w w' := by
 obtain ⟨A, c, rfl, _⟩ := hr.form
 obtain ⟨B, d, rfl, _⟩ := hv.form
 have hk := (Keeps.refl y01 w).alloc (.cells (y0a (.slice B r.want.length d, r)).toArray 122)
 have HK0 := xhd hk
 have HS := xhd (y7o F G (.slice A l.length c) (.slice B r.want.length d) _ _ l r.want _ (hr.keeps hk (fun _ _ h => h)) (hv.keeps hk (fun _ _ h => h)))
 have HD := xhd (show decide (r.fits l) = decide (l = r.want) from decide_eq_decide.2 (by
  unfold Pure.Rule.fits
  rw [h3]
  simp))
 have q1 : (r.how == 1) = false := by rw [beq_eq_false_iff_ne]; omega
 have q3 : (r.how == 3) = true := by rw [beq_iff_eq]; exact h3
 clear hr hv hk h3
 go_enter Tryz.func189, Tryz.ntmps189
 go_wp2_with fail
 refine HS.out.mono ?_
 rintro e w1 ⟨rfl, rfl⟩
 go_wp2
 go_ret
 exact ⟨by rw [HD.out]; rfl, HK0.out⟩
theorem pfits_none (F : Nat → Prop) (v x : Value) (r : Pure.Rule) (l : List UInt8) (w : World) (hr : Row w F 1 x l.length (u8s l)) (h1 : r.how ≠ 1) (h2 : r.how ≠ 2) (h3 : r.how ≠ 3) (h4 : r.how ≠ 4) :
  Calls Tryz.prog 189 #[y1i (v, r), x] w fun e w' => e = .returned (.bool (decide (r.fits l))) ∧ Keeps y01 w w' := by
 obtain ⟨A, c, rfl, _⟩ := hr.form
 have HK0 := xhd ((Keeps.refl y01 w).alloc (.cells (y0a (v, r)).toArray 122))
 have HD := xhd (show decide (r.fits l) = false from decide_eq_false (by
  unfold Pure.Rule.fits
  simp [h1, h2, h3, h4]))
 have q1 : (r.how == 1) = false := by rw [beq_eq_false_iff_ne]; exact h1
 have q2 : (r.how == 2) = false := by rw [beq_eq_false_iff_ne]; exact h2
 have q3 : (r.how == 3) = false := by rw [beq_eq_false_iff_ne]; exact h3
 have q4 : (r.how == 4) = false := by rw [beq_eq_false_iff_ne]; exact h4
 clear hr h1 h2 h3 h4
 go_enter Tryz.func189, Tryz.ntmps189
 go_wp2_with fail
 go_ret
 exact ⟨by rw [HD.out]; rfl, HK0.out⟩
theorem ydp (F G : Nat → Prop) (v x : Value) (r : Pure.Rule) (l : List UInt8) (w : World) (hr : Row w F 1 x l.length (u8s l)) (hv : Row w G 1 v r.want.length (u8s r.want)) (hM : r.Ok) :
  Calls Tryz.prog 189 #[y1i (v, r), x] w fun e w' => e = .returned (.bool (decide (r.fits l))) ∧ Keeps y01 w w' := by
 by_cases h1 : r.how = 1
 ·exact pfits_one F v x r l w hr h1
 by_cases h3 : r.how = 3
 ·exact yhj F G v x r l w hr hv h3
 by_cases h24 : r.how = 2 ∨ r.how = 4
 ·exact pfits_num F v x r l w hr h24 hM
 ·exact pfits_none F v x r l w hr h1 (fun h => h24 (.inl h)) h3 (fun h => h24 (.inr h))
abbrev pktV (p : Pure.Pkt) (v : Value) : Value := .agg #[.int .i64 p.code, .int .i64 p.id, v]
end Go.Proofs.YtmgicbckgpdkcaaGreatDoor
