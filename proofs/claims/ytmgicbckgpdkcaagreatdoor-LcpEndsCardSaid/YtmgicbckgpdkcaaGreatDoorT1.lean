/- What a walk is told of a slice of integers that came in. -/
import Derived.Test.YtmgicbckgpdkcaaGreatDoorD1
namespace Go.Proofs.YtmgicbckgpdkcaaGreatDoor
set_option maxRecDepth 100000
set_option maxHeartbeats 8000000
open _root_.Go.Lib renaming hid → xhd
open List renaming setIfInBounds_toArray → xqA, getElem_toArray → xqB, getElem_cons_succ → xqC, getElem_cons_zero → xqD, set_cons_succ → xqE, set_cons_zero → xqF
open Go.RowKit
open Go.ChangeShapes Go.WideShapes Go.Deep
section
variable {H : Type} {enc : TypeId × Value → H} {P : Program} {w : World} {base : Nat} {held : Bool}
end
section
variable {H : Type} {enc : TypeId × Value → H} {P : Program} {w : World} {base : Nat} {held : Bool}
end
section
variable {H : Type} {enc : TypeId × Value → H} {P : Program} {w : World} {base : Nat} {held : Bool}
end
theorem u16_of_wf {n : Int} (h : (Lit.int .u16 n).wf = true) : 0 ≤ n ∧ n ≤ 65535 := by
 simpa [Lit.wf, IntKind.min, IntKind.max, IntKind.signed, IntKind.bits] using h
namespace Pure
theorem y67 {n : Neg} {c l t u k : Nat} {i : Int} {d : List UInt8} {o a : List Opt} (hm : n.m = ⟨6, c, l, t, u⟩) (hs : split d = (0, o)) (hj : judge n.rules o (decide (t ≤ n.naks)) = (k, a)) (hk : k ≠ 2) :
  n.input ⟨1, i, d⟩ = ({ n with naks := if k = 3 then n.naks + 1 else n.naks }, sends [⟨k, i, (options a).2⟩]) := by
 have h1 : ¬ n.m.state ≤ 1 := by rw [hm]; simp
 have h2 : ¬ (split d).1 ≠ 0 := by rw [hs]; simp
 have hj' : judge n.rules o (decide (n.m.tries ≤ n.naks)) = (k, a) := by rw [hm]; exact hj
 unfold Neg.input
 rw [if_neg h1, if_pos rfl, if_neg h2, hs]
 unfold Neg.judged
 rw [hj']
 dsimp only
 rw [if_neg hk, if_neg (fun h => hk h.1)]
 unfold Neg.event
 rw [hm, y9e]
 rw [← hm]
 rfl
theorem act_9_3 (c l t u : Nat) : (⟨9, c, l, t, u⟩ : Mach).act2 (3 : Nat) = ([1, 4, 9], ⟨4, t - 1, u, t, u⟩) := rfl
theorem act_9_10 (c l t u : Nat) : (⟨9, c, l, t, u⟩ : Mach).act2 (10 : Nat) = ([1, 5, 10], ⟨5, 0, u, t, u⟩) := rfl
theorem act_4_11 (c l t u : Nat) : (⟨4, c, l, t, u⟩ : Mach).act2 (11 : Nat) = ([3], ⟨2, c, 0, t, u⟩) := rfl
theorem act_9_14 (c l t u : Nat) : (⟨9, c, l, t, u⟩ : Mach).act2 (14 : Nat) = ([1, 4, 9], ⟨5, t - 1, u, t, u⟩) := rfl
theorem act_9_13 (c l t u : Nat) : (⟨9, c, l, t, u⟩ : Mach).act2 (13 : Nat) = ([], ⟨9, c, 0, t, u⟩) := rfl
theorem hear_end {n : Neg} {c l t u : Nat} {i : Int} {d : List UInt8} (hm : n.m = ⟨9, c, l, t, u⟩) : n.input ⟨5, i, d⟩ = ({ n with m := ⟨5, 0, u, t, u⟩ }, ⟨[⟨6, i, []⟩], false, true, false, false⟩) := by
 have h1 : ¬ n.m.state ≤ 1 := by rw [hm]; simp
 unfold Neg.input
 rw [if_neg h1, if_neg (show ¬ (5 : Int) = 1 by decide), if_neg (show ¬ ((5 : Int) = 2 ∨ (5 : Int) = 3 ∨ (5 : Int) = 4) by decide), if_pos rfl]
 unfold Neg.event
 rw [hm, act_9_10]
 rfl
theorem hear_ended {n : Neg} {c l t u : Nat} {i : Int} {d : List UInt8} (hm : n.m = ⟨4, c, l, t, u⟩) : n.input ⟨6, i, d⟩ = ({ n with m := ⟨2, c, 0, t, u⟩ }, ⟨[], false, false, false, true⟩) := by
 have h1 : ¬ n.m.state ≤ 1 := by rw [hm]; simp
 unfold Neg.input
 rw [if_neg h1, if_neg (show ¬ (6 : Int) = 1 by decide), if_neg (show ¬ ((6 : Int) = 2 ∨ (6 : Int) = 3 ∨ (6 : Int) = 4) by decide), if_neg (show ¬ (6 : Int) = 5 by decide), if_pos rfl]
 unfold Neg.event
 rw [hm, act_4_11]
 rfl
end Pure
theorem nown_any (F : Nat → Prop) (g : Nat) (R : Nat → Prop) (f : NF) (n : Pure.Neg) (code : Int) (x : Value) (l : List UInt8) (w : World) (h : NObj w g R f n) (hr : Row w F 1 x l.length (u8s l)) (hl : l.length ≤ 1000000) :
  Calls Tryz.prog 94 #[.pointer (some ⟨g, 0, none⟩), .int .i64 code, x] w fun e w' => ∃ A c, e = .returned (.agg #[.int .i64 code, .int .i64 (n.next : Int), .slice A l.length c]) ∧ Row w' (fun b => w.heap.size ≤ b ∧ b < w'.heap.size) 1 (.slice A l.length c) l.length (u8s l) ∧ y18 w w' g R f { n with id := n.next } := by
 obtain ⟨X, cx, rfl, _⟩ := hr.form
 have HI := xhd y4e
 have hgl := h.blk.lt
 obtain ⟨ro, hro⟩ : ∃ q, q = w.heap.size := ⟨_, rfl⟩
 obtain ⟨w1, hw1⟩ : ∃ q, q = w.alloc (.cells #[.int .i64 0, .int .i64 0, .slice none 0 0] 56) := ⟨_, rfl⟩
 have hk1 : Keeps y01 w w1 := by rw [hw1]; exact (Keeps.refl _ w).alloc _
 have hO : Blk w1 ro 56 #[.int .i64 0, .int .i64 0, .slice none 0 0] := by rw [hw1, hro]; exact Blk.new w _ _
 have h1 := h.keeps hk1 (fun e => e) (fun e => e) (fun _ _ e => e)
 have HMD := xhd (y22 g f w1 h1.blk)
 have HBC := xhd (y2g F (.slice X l.length cx) _ l w1 (hr.keeps hk1 (fun _ _ e => e)) (by omega))
 have HH := xhd h
 have H1 := xhd h1
 have HO := xhd hO
 have HK1 := xhd hk1
 have HRO := xhd hro
 have HGL := xhd (show g < ro by omega)
 clear h h1 hO hk1 hr hgl
 go_enter Tryz.func94, Tryz.ntmps94
 go_upto_region 1 with fail
 rw [← hro, ← hw1]
 clear hro hw1
 go_wp2_with fail
 refine HMD.out.mono ?_
 rintro e w2 ⟨rfl, rfl⟩
 go_wp2_with fail
 refine HBC.out.mono ?_
 rintro e w2 ⟨u, rfl, hu, hbl⟩
 obtain ⟨A, c, rfl⟩ := y0c hu
 have hk2 : Keeps y01 w1 w2 := Keeps.new hbl
 have h2 := H1.out.keeps hk2 (fun e => e) (fun e => e) (fun _ _ e => e)
 have hid : f.id < 256 := by rw [h2.e2]; exact h2.well.id
 have HOW := xhd (y90 g f code A l.length c n.next w2 h2.blk hid (by rw [h2.e2]; rfl))
 have HU := xhd ((Row.of_own hu).strongN (by omega))
 have HGE := xhd (fun b hb => y0f hu b hb)
 have HK2 := xhd (HK1.out.trans hk2)
 have HO2 := xhd (HO.out.keeps hk2 (fun e => e))
 clear hu hbl hk2 h2 hid HBC HMD
 go_wp2_with fail
 refine HOW.out.mono ?_
 rintro e w3 ⟨rfl, hb3, hk3⟩
 have hO3 := HO2.out.keeps hk3 (fun e => by have e : ro = g := e; have := HGL.out; omega)
 have o0 : w3.cell? ⟨ro, 0, none⟩ = some (.int .i64 0) := by rw [hO3.cell]; rfl
 have o1 : w3.cell? ⟨ro, 1, none⟩ = some (.int .i64 0) := by rw [hO3.cell]; rfl
 have o2 : w3.cell? ⟨ro, 2, none⟩ = some (.slice none 0 0) := by rw [hO3.cell]; rfl
 have f0 := hO3.frozen 0
 have f1 := hO3.frozen 1
 have f2 := hO3.frozen 2
 have HZ := xhd (((hO3.set 0 (.int .i64 code)).set 1 (.int .i64 (n.next : Int))).set 2 (.slice A l.length c))
 have KS := (((Keeps.refl (only ro) w3).put 0 (.int .i64 code)).put 1 (.int .i64 (n.next : Int))).put 2 (.slice A l.length c)
 have k03 : Keeps (only g) w w3 := (HK2.out.mono (fun _ e => e.elim)).trans hk3
 have k04 : Keeps (only g) w _ := k03.trans' KS (fun i hi hl => by have e : i = ro := hi; have := HRO.out; omega)
 have HN := xhd (HH.out.owned k04 (hb3.keeps KS (fun e => by have e : g = ro := e; have := HGL.out; omega)))
 have HR := xhd (((HU.out.keeps hk3 (fun b hb e => by have e : b = g := e; have := HGE.out b hb.1; have := HGL.out; have := HO.out.lt; omega)).keeps KS (fun b hb e => by have e : b = ro := e; have := HGE.out b hb.1; have := HO.out.lt; omega)).mono (G := fun b => w.heap.size ≤ b ∧ b < (((w3.setCell ⟨ro, 0, none⟩ (.int .i64 code)).setCell ⟨ro, 1, none⟩ (.int .i64 (n.next : Int))).setCell ⟨ro, 2, none⟩ (.slice A l.length c)).heap.size) (fun b hb => ⟨by have := HGE.out b hb.1; have := HK1.out.size; omega, Nat.lt_of_lt_of_le hb.2 (Nat.le_trans hk3.size KS.size)⟩))
 have HKK := xhd (k04.mono (T := fun b => b = g ∨ b = f.gm) (fun b e => .inl e))
 clear hO3 KS k03 k04 hb3 hk3 HOW
 go_wp2_with fail
 refine bodyPost_ret (y07 rfl _ _ ro 56 _ (0, 0) _ rfl HZ.out Tryz.underlying56 rfl (by rw [HI.out]; rfl)) rfl ?_
 exact ⟨A, c, rfl, HR.out, _, _, HN.out, rfl, fun b hb => hb.1, HKK.out⟩
namespace Pure
def Lcp.refuse (x : Lcp) (proto : Nat) (info : List UInt8) : Lcp × LSaid :=
 if x.n.m.state = 9 then ({ x with n := { x.n with id := x.n.next } }, .of ⟨[⟨8, x.n.next, (wide proto 2 ++ info).take 1496⟩], false, false, false, false⟩) else (x, .of mute)
end Pure
namespace Pure
section
variable {N : Type} (inp : N → Pkt → N × List Pkt) (mx my : Nat → Pkt) (ra rb : Bool)
def y0h (r : Bool) (i : Nat) : Nat := if i = 0 then (if r then 1 else 3) else i + 1
structure Ends (E : Nat → Nat → N) (m o : Nat → Pkt) (r ro : Bool) : Prop where
 told : ∀ i j, i ≤ 4 → j ≤ 4 → (i = 1 ∧ r = true ∨ i = 3) → inp (E i j) (m i) = (E (i + 1) j, if i = 1 then [m 2] else [])
 asked : ∀ i j, i ≤ 4 → (j = 0 ∨ j = 2 ∧ ro = true) → inp (E i j) (o j) = (E i (y0h ro j), [o (y0h ro j)])
structure DuoAt (i j : Nat) (qx qy : List Pkt) : Prop where
 i4 : i ≤ 4
 j4 : j ≤ 4
 ri : i = 1 ∨ i = 2 → ra = true
 rj : j = 1 ∨ j = 2 → rb = true
 x : qx.Perm (waits mx my i j)
 y : qy.Perm (waits my mx j i)
theorem y6e {p a b : Pkt} {t : List Pkt} (h : (p :: t).Perm [a, b]) : (p = a ∧ t = [b]) ∨ (p = b ∧ t = [a]) := by
 have hm : p ∈ [a, b] := h.mem_iff.1 List.mem_cons_self
 simp only [List.mem_cons, List.not_mem_nil, or_false] at hm
 rcases hm with rfl | rfl
 ·have := (List.perm_cons p).1 h
  exact .inl ⟨rfl, List.perm_singleton.1 this⟩
 ·have h2 : (p :: t).Perm [p, a] := h.trans (List.Perm.swap p a [])
  have := (List.perm_cons p).1 h2
  exact .inr ⟨rfl, List.perm_singleton.1 this⟩
theorem y3s {p a : Pkt} {t : List Pkt} (h : (p :: t).Perm [a]) : p = a ∧ t = [] := by
 have := List.perm_singleton.1 h
 injection this with h1 h2
 exact ⟨h1, h2⟩
variable {inp mx my ra rb} {X Y : Nat → Nat → N}
theorem DuoAt.hear {i j : Nat} {p : Pkt} {t qy : List Pkt} (hX : Ends inp X mx my ra rb) (h : DuoAt mx my ra rb i j (p :: t) qy) :
  ∃ i' j' o, inp (X i j) p = (X i' j', o) ∧ DuoAt mx my ra rb i' j' t (qy ++ o) ∧ i' + j' > i + j ∧ ((i' = i + 1 ∧ j' = j ∧ (i = 1 ∨ i = 3)) ∨ (i' = i ∧ j' = y0h rb j ∧ (j = 0 ∨ j = 2))) := by
 obtain ⟨i4, j4, ri, rj, hx, hy⟩ := h
 have own : (i = 1 ∨ i = 3) → p = mx i → t.Perm (if y0r j then [my j] else []) → ∃ i' j' o, inp (X i j) p = (X i' j', o) ∧ DuoAt mx my ra rb i' j' t (qy ++ o) ∧ i' + j' > i + j ∧ ((i' = i + 1 ∧ j' = j ∧ (i = 1 ∨ i = 3)) ∨ (i' = i ∧ j' = y0h rb j ∧ (j = 0 ∨ j = 2))) := by
  rintro hi rfl ht
  refine ⟨i + 1, j, _, hX.told i j i4 j4 ?_, ⟨by omega, j4, ?_, rj, ?_, ?_⟩, by omega, .inl ⟨rfl, rfl, hi⟩⟩
  ·rcases hi with rfl | rfl
   ·exact .inl ⟨rfl, ri (.inl rfl)⟩
   ·exact .inr rfl
  ·intro h2
   rcases hi with rfl | rfl
   ·exact ri (.inl rfl)
   ·omega
  ·have e : waits mx my (i + 1) j = if y0r j then [my j] else [] := by
    rcases hi with rfl | rfl <;> rfl
   rw [e]; exact ht
  ·rcases hi with rfl | rfl
   ·have e1 : waits my mx j 1 = (if y0s j then [my j] else []) := by simp [waits, y0r]
    have e2 : waits my mx j (1 + 1) = (if y0s j then [my j] else []) ++ [mx 2] := by simp [waits, y0r]
    rw [e2]
    rw [e1] at hy
    exact hy.append_right _
   ·have e1 : waits my mx j 3 = (if y0s j then [my j] else []) := by simp [waits, y0r]
    have e2 : waits my mx j (3 + 1) = (if y0s j then [my j] else []) := by simp [waits, y0r]
    rw [e2]
    rw [e1] at hy
    simpa using hy
 have oth : (j = 0 ∨ j = 2) → p = my j → t.Perm (if y0s i then [mx i] else []) → ∃ i' j' o, inp (X i j) p = (X i' j', o) ∧ DuoAt mx my ra rb i' j' t (qy ++ o) ∧ i' + j' > i + j ∧ ((i' = i + 1 ∧ j' = j ∧ (i = 1 ∨ i = 3)) ∨ (i' = i ∧ j' = y0h rb j ∧ (j = 0 ∨ j = 2))) := by
  rintro hj rfl ht
  have hn : y0h rb j = 1 ∧ rb = true ∨ y0h rb j = 3 := by
   rcases hj with rfl | rfl
   ·cases rb
    ·exact .inr rfl
    ·exact .inl ⟨rfl, rfl⟩
   ·exact .inr rfl
  have hlt : y0h rb j > j := by
   rcases hj with rfl | rfl
   ·rcases hn with ⟨h, _⟩ | h <;> omega
   ·show 2 + 1 > 2; omega
  refine ⟨i, y0h rb j, _, hX.asked i j i4 ?_, ⟨i4, ?_, ri, ?_, ?_, ?_⟩, by omega, .inr ⟨rfl, rfl, hj⟩⟩
  ·rcases hj with rfl | rfl
   ·exact .inl rfl
   ·exact .inr ⟨rfl, rj (.inr rfl)⟩
  ·rcases hn with ⟨h, _⟩ | h <;> omega
  ·intro h2
   rcases hn with ⟨_, h⟩ | h
   ·exact h
   ·omega
  ·have e : waits mx my i (y0h rb j) = if y0s i then [mx i] else [] := by
    rcases hn with ⟨h, _⟩ | h <;> rw [h] <;> simp [waits, y0r]
   rw [e]; exact ht
  ·have e1 : waits my mx j i = if y0r i then [mx i] else [] := by
    rcases hj with rfl | rfl <;> rfl
   have e2 : waits my mx (y0h rb j) i = [my (y0h rb j)] ++ if y0r i then [mx i] else [] := by
    rcases hn with ⟨h, _⟩ | h <;> rw [h] <;> rfl
   rw [e2]
   rw [e1] at hy
   exact (hy.append_right _).trans List.perm_append_comm
 unfold waits at hx
 by_cases ha : y0s i = true
 ·have hi : i = 1 ∨ i = 3 := by simpa [y0s] using ha
  rw [if_pos ha] at hx
  by_cases hb : y0r j = true
  ·have hj : j = 0 ∨ j = 2 := by simpa [y0r] using hb
   rw [if_pos hb] at hx
   rcases y6e hx with ⟨h1, h2⟩ | ⟨h1, h2⟩
   ·exact own hi h1 (by rw [if_pos hb, h2])
   ·exact oth hj h1 (by rw [if_pos ha, h2])
  ·rw [if_neg hb] at hx
   obtain ⟨h1, h2⟩ := y3s hx
   exact own hi h1 (by rw [if_neg hb, h2])
 ·rw [if_neg ha] at hx
  by_cases hb : y0r j = true
  ·have hj : j = 0 ∨ j = 2 := by simpa [y0r] using hb
   rw [if_pos hb] at hx
   obtain ⟨h1, h2⟩ := y3s hx
   exact oth hj h1 (by rw [if_neg ha, h2])
  ·rw [if_neg hb] at hx
   exact absurd hx.length_eq (by simp)
theorem DuoAt.swap {i j : Nat} {qx qy : List Pkt} (h : DuoAt mx my ra rb i j qx qy) : DuoAt my mx rb ra j i qy qx := ⟨h.j4, h.i4, h.rj, h.ri, h.y, h.x⟩
theorem DuoAt.done {i j : Nat} (h : DuoAt mx my ra rb i j [] []) : i = 4 ∧ j = 4 := by
 have h1 := h.x.length_eq
 have h2 := h.y.length_eq
 have i4 := h.i4
 have j4 := h.j4
 obtain rfl | rfl | rfl | rfl | rfl : i = 0 ∨ i = 1 ∨ i = 2 ∨ i = 3 ∨ i = 4 := by omega
 all_goals (obtain rfl | rfl | rfl | rfl | rfl : j = 0 ∨ j = 1 ∨ j = 2 ∨ j = 3 ∨ j = 4 := by omega)
 all_goals (simp [waits, y0s, y0r] at h1 h2 ⊢)
theorem DuoAt.start : DuoAt mx my ra rb 0 0 [my 0] [mx 0] := ⟨by omega, by omega, by omega, by omega, .refl _, .refl _⟩
theorem DuoAt.short {i j : Nat} {qx qy : List Pkt} (h : DuoAt mx my ra rb i j qx qy) : qx.length ≤ 2 ∧ qy.length ≤ 2 := by
 have h1 := h.x.length_eq
 have h2 := h.y.length_eq
 have : ∀ (m o : Nat → Pkt) i j, (waits m o i j).length ≤ 2 := fun m o i j => by
  unfold waits
  split <;> split <;> simp
 exact ⟨by rw [h1]; exact this _ _ _ _, by rw [h2]; exact this _ _ _ _⟩
theorem DuoAt.goes {i j : Nat} {qx qy : List Pkt} (h : DuoAt mx my ra rb i j qx qy) (hq : 0 < qx.length + qy.length) : i + j < 8 := by
 have i4 := h.i4
 have j4 := h.j4
 by_cases he : i = 4 ∧ j = 4
 ·obtain ⟨rfl, rfl⟩ := he
  have h1 := h.x.length_eq
  have h2 := h.y.length_eq
  have e1 : (waits mx my 4 4).length = 0 := rfl
  have e2 : (waits my mx 4 4).length = 0 := rfl
  omega
 ·omega
end
end Pure
namespace Pure
theorem y5k {n : Neg} {c l t u k : Nat} {i : Int} {d : List UInt8} {o a : List Opt} (hm : n.m = ⟨7, c, l, t, u⟩) (hs : split d = (0, o)) (hj : judge n.rules o (decide (t ≤ n.naks)) = (k, a)) (hk : k ≠ 2) :
  n.input ⟨1, i, d⟩ = ({ n with naks := if k = 3 then n.naks + 1 else n.naks }, sends [⟨k, i, (options a).2⟩]) := by
 have h1 : ¬ n.m.state ≤ 1 := by rw [hm]; simp
 have h2 : ¬ (split d).1 ≠ 0 := by rw [hs]; simp
 have hj' : judge n.rules o (decide (n.m.tries ≤ n.naks)) = (k, a) := by rw [hm]; exact hj
 unfold Neg.input
 rw [if_neg h1, if_pos rfl, if_neg h2, hs]
 unfold Neg.judged
 rw [hj']
 dsimp only
 rw [if_neg hk, if_neg (fun h => hk h.1)]
 unfold Neg.event
 rw [hm, y9f]
 rw [← hm]
 rfl
def stOf (i j : Nat) : Nat := if i = 4 then (if 3 ≤ j then 9 else 7) else (if 3 ≤ j then 8 else 6)
def idOf (r : Bool) (i : Nat) : Nat := if r = true ∧ 2 ≤ i then 2 else 1
theorem y33 (r : Bool) : idOf r 4 = idOf r 3 := by cases r <;> rfl
def y06 (rules : List Rule) (ask rest theirs : List Opt) (r : Bool) (t u i j : Nat) : Neg :=
 ⟨rules, ask, if i ≤ 1 then ask else rest, ⟨stOf i j, if i = 4 then t else t - 1, if i = 4 ∧ 3 ≤ j then 0 else u, t, u⟩, idOf r i, idOf r i, 0, decide (i < 4), if i = 4 then rest else [], if 3 ≤ j then theirs else [], 0, (options (if i ≤ 1 then ask else rest)).2⟩
def y1g (ask rej rest : List Opt) (r : Bool) (i : Nat) : Pkt :=
 if i = 0 then ⟨1, 1, (options ask).2⟩ else if i = 1 then ⟨4, 1, (options rej).2⟩ else if i = 2 then ⟨1, 2, (options rest).2⟩ else ⟨2, (idOf r 3 : Nat), (options rest).2⟩
section
variable {rules orules : List Rule} {ask rej rest oask orej orest : List Opt} {r ro : Bool} {t u : Nat}
theorem y6g (h : Side rules orules ask rej rest true) (theirs : List Opt) (j : Nat) : y10 (y06 rules ask rest theirs true t u 1 j) (y1g ask rej rest true 1) = (y06 rules ask rest theirs true t u 2 j, [y1g ask rej rest true 2]) := by
 have hin : rej.all (fun o => (split (y06 rules ask rest theirs true t u 1 j).ours).2.any fun q => decide (o = q)) = true := by
  have e : (split (y06 rules ask rest theirs true t u 1 j).ours).2 = ask := by
   show (split (options ask).2).2 = ask
   rw [y0e h.fa]
  rw [e, List.all_eq_true]
  intro o ho
  rw [List.any_eq_true]
  exact ⟨o, h.sub o ho, decide_eq_true rfl⟩
 have hl := h.left rfl
 by_cases hj : 3 ≤ j
 ·have hm : (y06 rules ask rest theirs true t u 1 j).m = ⟨8, t - 1, u, t, u⟩ := by
   show (⟨stOf 1 j, t - 1, u, t, u⟩ : Mach) = _
   unfold stOf
   rw [if_neg (by omega), if_pos hj]
  have h1 := y6q (n := y06 rules ask rest theirs true t u 1 j) hm rfl (y0e h.fr) hin
  rw [show left (y06 rules ask rest theirs true t u 1 j).rules (y06 rules ask rest theirs true t u 1 j).request rej = rest from hl] at h1
  refine y0k (h1.trans (Prod.ext ?_ rfl)) rfl
  show anew _ rest (t - 1) u = _
  unfold anew y06
  simp only [stOf, if_neg (show ¬ (2 : Nat) = 4 by decide), if_neg (show ¬ (1 : Nat) = 4 by decide), if_pos hj]
  rfl
 ·have hm : (y06 rules ask rest theirs true t u 1 j).m = ⟨6, t - 1, u, t, u⟩ := by
   show (⟨stOf 1 j, t - 1, u, t, u⟩ : Mach) = _
   unfold stOf
   rw [if_neg (by omega), if_neg hj]
  have h1 := y6p (n := y06 rules ask rest theirs true t u 1 j) hm rfl (y0e h.fr) hin
  rw [show left (y06 rules ask rest theirs true t u 1 j).rules (y06 rules ask rest theirs true t u 1 j).request rej = rest from hl] at h1
  refine y0k (h1.trans (Prod.ext ?_ rfl)) rfl
  show y44 _ rest (t - 1) u = _
  unfold y44 y06
  simp only [stOf, if_neg (show ¬ (2 : Nat) = 4 by decide), if_neg (show ¬ (1 : Nat) = 4 by decide), if_neg hj]
  rfl
theorem y52 (h : Side rules orules ask rej rest r) (theirs : List Opt) (j : Nat) : y10 (y06 rules ask rest theirs r t u 3 j) (y1g ask rej rest r 3) = (y06 rules ask rest theirs r t u 4 j, []) := by
 have ho : (y06 rules ask rest theirs r t u 3 j).ours = (options rest).2 := rfl
 have hs : (split (options rest).2).2 = rest := by rw [y0e h.fs]
 by_cases hj : 3 ≤ j
 ·have hm : (y06 rules ask rest theirs r t u 3 j).m = ⟨8, t - 1, u, t, u⟩ := by
   show (⟨stOf 3 j, t - 1, u, t, u⟩ : Mach) = _
   unfold stOf
   rw [if_neg (by omega), if_pos hj]
  have h1 := y6o (n := y06 rules ask rest theirs r t u 3 j) hm rfl
  refine y0k (h1.trans (Prod.ext ?_ rfl)) rfl
  rw [ho, hs]
  unfold y06
  simp only [stOf, if_pos hj, true_and, if_true, y33]
  rfl
 ·have hm : (y06 rules ask rest theirs r t u 3 j).m = ⟨6, t - 1, u, t, u⟩ := by
   show (⟨stOf 3 j, t - 1, u, t, u⟩ : Mach) = _
   unfold stOf
   rw [if_neg (by omega), if_neg hj]
  have h1 := y6n (n := y06 rules ask rest theirs r t u 3 j) hm rfl
  refine y0k (h1.trans (Prod.ext ?_ rfl)) rfl
  rw [ho, hs]
  unfold y06
  simp only [stOf, if_neg hj, true_and, if_true, y33]
  rfl
theorem y5j (h : Side orules rules oask orej orest true) (ht : 1 ≤ t) (theirs : List Opt) (i : Nat) : y10 (y06 rules ask rest theirs r t u i 0) (y1g oask orej orest true 0) = (y06 rules ask rest theirs r t u i 1, [y1g oask orej orest true 1]) := by
 have hj : judge rules oask (decide (t ≤ 0)) = (4, orej) := by rw [decide_eq_false (by omega)]; exact h.first
 by_cases hi : i = 4
 ·subst hi
  have h1 := y5k (n := y06 rules ask rest theirs r t u 4 0) (c := t) (l := u) (t := t) (u := u) (i := 1) rfl (y0e h.fa) hj (by decide)
  exact y0k (h1.trans (Prod.ext rfl rfl)) rfl
 ·have hm : (y06 rules ask rest theirs r t u i 0).m = ⟨6, t - 1, u, t, u⟩ := by
   show (⟨stOf i 0, if i = 4 then t else t - 1, if i = 4 ∧ 3 ≤ 0 then 0 else u, t, u⟩ : Mach) = _
   unfold stOf
   rw [if_neg hi, if_neg hi, if_neg (show ¬ 3 ≤ 0 by decide), if_neg (fun h : i = 4 ∧ 3 ≤ 0 => hi h.1)]
  have h1 := y67 (n := y06 rules ask rest theirs r t u i 0) (i := 1) hm (y0e h.fa) hj (by decide)
  refine y0k (h1.trans (Prod.ext ?_ rfl)) rfl
  unfold y06 stOf
  simp only [if_neg hi, if_neg (fun h : i = 4 ∧ 3 ≤ 0 => hi h.1), if_neg (fun h : i = 4 ∧ 3 ≤ 1 => hi h.1)]
  rfl
theorem y2f (ht : 1 ≤ t) (theirs : List Opt) (hf : Fine theirs) (hj : judge rules theirs false = (2, theirs)) (id : Int) (j : Nat) (hj3 : j < 3) (i : Nat) :
  y10 (y06 rules ask rest theirs r t u i j) ⟨1, id, (options theirs).2⟩ = (y06 rules ask rest theirs r t u i 3, [⟨2, id, (options theirs).2⟩]) := by
 have hj' : judge rules theirs (decide (t ≤ 0)) = (2, theirs) := by rw [decide_eq_false (by omega)]; exact hj
 have n3 : ¬ 3 ≤ j := by omega
 by_cases hi : i = 4
 ·subst hi
  have hm : (y06 rules ask rest theirs r t u 4 j).m = ⟨7, t, u, t, u⟩ := by
   show (⟨stOf 4 j, t, if 4 = 4 ∧ 3 ≤ j then 0 else u, t, u⟩ : Mach) = _
   unfold stOf
   rw [if_pos rfl, if_neg n3, if_neg (fun h => n3 h.2)]
  have h1 := y6r (n := y06 rules ask rest theirs r t u 4 j) (i := id) hm (y0e hf) hj'
  refine y0k (h1.trans (Prod.ext ?_ rfl)) rfl
  rfl
 ·have hm : (y06 rules ask rest theirs r t u i j).m = ⟨6, t - 1, u, t, u⟩ := by
   show (⟨stOf i j, if i = 4 then t else t - 1, if i = 4 ∧ 3 ≤ j then 0 else u, t, u⟩ : Mach) = _
   unfold stOf
   rw [if_neg hi, if_neg hi, if_neg n3, if_neg (fun h => hi h.1)]
  have h1 := y7u (n := y06 rules ask rest theirs r t u i j) (i := id) hm (y0e hf) hj'
  refine y0k (h1.trans (Prod.ext ?_ rfl)) rfl
  unfold y06 stOf
  simp only [if_neg hi, if_neg (fun h : i = 4 ∧ 3 ≤ 3 => hi h.1)]
  rfl
theorem y6a (h : Side rules orules ask rej rest r) (ho : Side orules rules oask orej orest ro) (ht : 1 ≤ t) : Ends y10 (y06 rules ask rest orest r t u) (y1g ask rej rest r) (y1g oask orej orest ro) r ro := by
 refine ⟨fun i j _ _ hi => ?_, fun i j _ hj => ?_⟩
 ·rcases hi with ⟨rfl, rfl⟩ | rfl
  ·exact y6g h orest j
  ·exact y52 h orest j
 ·rcases hj with rfl | ⟨rfl, rfl⟩
  ·cases ro
   ·have hs := ho.same rfl
    have h2 := ho.first
    subst hs
    exact y2f ht _ ho.fs h2 1 0 (by omega) i
   ·exact y5j ho ht orest i
  ·exact y2f ht orest ho.fs ho.again 2 2 (by omega) i
end
end Pure
theorem yf2 (y : Int) (x n : Nat) (w : World) (hn : n ≤ 4) (hxy : (x : Int) = y % 4294967296) :
  Calls Tryz.prog 92 #[.int .i64 y, .int .i64 n] w fun e w' => ∃ A c, e = .returned (.slice A n c) ∧ Row w' (fun b => w.heap.size ≤ b) 1 (.slice A n c) n (u8s (Pure.wide x n)) ∧ Keeps y01 w w' := by
 have HXY := xhd hxy
 clear hxy
 go_enter Tryz.func92, Tryz.ntmps92
 go_wp2_with (at_make; refine y0t ?_)
 unfold Hid
 refine y7j rfl _ _ rfl n .i64 .i64 rfl rfl (by omega) ?_
 intro w1 hX hk hs
 obtain ⟨g, hg⟩ : ∃ g, g = w.heap.size := ⟨_, rfl⟩
 rw [← hg] at hX ⊢
 have HX := xhd hX
 have HK := xhd hk
 have HG := xhd hg
 clear hX hk hs hg
 go_wp2_with fail
 go_loopw [12] (fun v wr => ∃ k : Nat, k ≤ n ∧ v = .int .i64 (k : Int) ∧ Blk wr g 5 (u8s (List.replicate (n - k) 0 ++ (Pure.wide x n).drop (n - k))).toArray ∧ Keeps (only g) w1 wr) (fun v _ => n - (intOf v).toNat)
 case atStart =>
  refine ⟨0, by omega, rfl, ?_, Keeps.refl _ _⟩
  rw [Nat.sub_zero, List.drop_of_length_le (by rw [Pure.wide_length]; omega), List.append_nil]
  exact HX.out
 case round =>
  clear HX
  obtain ⟨k, hk, rfl, hX, hK⟩ := hrel
  have HX := xhd hX
  have HK2 := xhd hK
  by_cases hkl : k < n
  ·obtain ⟨m, hm⟩ : ∃ m, n - 1 - k = m := ⟨_, rfl⟩
   have hnk : n - k = m + 1 := by omega
   have hi0 : (0 : Int) ≤ (n : Int) - 1 - (k : Int) := by omega
   have hi1 : (n : Int) - 1 - (k : Int) < (n : Int) := by omega
   have e1 : wrap64 ((n : Int) - 1) = (n : Int) - 1 := IntWalk.wrap64_in _ (by omega)
   have e3 : wrap64 (8 * (k : Int)) = ((8 * k : Nat) : Int) := by rw [IntWalk.wrap64_in _ (by omega)]; omega
   obtain ⟨B, hBe⟩ : ∃ B, B = UInt8.ofNat (x / 256 ^ k % 256) := ⟨_, rfl⟩
   have hbv : (y / 2 ^ (8 * k) % 256) = (B.toNat : Int) := by
    rw [hBe, show (UInt8.ofNat (x / 256 ^ k % 256)).toNat = x / 256 ^ k % 256 by simp]
    have h4 : k < 4 := by omega
    have hxy := HXY.out
    obtain rfl | rfl | rfl | rfl : k = 0 ∨ k = 1 ∨ k = 2 ∨ k = 3 := by omega
    ·show y / 1 % 256 = ((x / 1 % 256 : Nat) : Int); omega
    ·show y / 256 % 256 = ((x / 256 % 256 : Nat) : Int); omega
    ·show y / 65536 % 256 = ((x / 65536 % 256 : Nat) : Int); omega
    ·show y / 16777216 % 256 = ((x / 16777216 % 256 : Nat) : Int); omega
   rw [hnk] at HX
   have hlen : (List.replicate (m + 1) 0 ++ (Pure.wide x n).drop (m + 1)).length = n := by simp [Pure.wide_length]; omega
   have k0 : wr.cell? ⟨g, m, none⟩ = some (.int .u8 ((List.replicate (m + 1) 0 ++ (Pure.wide x n).drop (m + 1)).getD m 0).toNat) := by rw [HX.out.cell, ← y3t _ m (by omega)]; simp only [List.getElem?_toArray]
   obtain ⟨old, hold⟩ : ∃ old, old = (List.replicate (m + 1) 0 ++ (Pure.wide x n).drop (m + 1)).getD m 0 := ⟨_, rfl⟩
   rw [← hold] at k0
   have f0 : wr.frozen? ⟨g, m, none⟩ = false := HX.out.frozen m
   have HS := xhd (show Blk (wr.setCell ⟨g, m, none⟩ (.int .u8 B.toNat)) g 5 (u8s (List.replicate m 0 ++ (Pure.wide x n).drop m)).toArray by
    have h := HX.out.set m (.int .u8 B.toNat)
    have e : (u8s (List.replicate (m + 1) 0 ++ (Pure.wide x n).drop (m + 1))).toArray.setIfInBounds m (.int .u8 B.toNat) = (u8s (List.replicate m 0 ++ (Pure.wide x n).drop m)).toArray := by
     rw [wide_at x n m (by omega), show n - 1 - m = k by omega, ← hBe, ← set_back, xqA]
     congr 1
     rw [← List.map_set]
    rw [e] at h
    exact h)
   have HKS := xhd (HK2.out.store g m (fun _ => rfl) (.int .u8 B.toNat))
   have HM := xhd (show m = n - (k + 1) by omega)
   subst hm
   clear hX hK hold hlen hBe hnk
   go_wp2_with fail
   go_roundw
   case rel =>
    refine ⟨k + 1, by omega, by go_num, ?_, HKS.out⟩
    rw [← HM.out]
    exact HS.out
   case measure => simp [intOf]; omega
  ·have hkk : k = n := by omega
   subst hkk
   have HR := xhd (show Row wr (fun b => w.heap.size ≤ b) 1 (.slice (some ⟨g, 0, none⟩) k k) k (u8s (Pure.wide x k)) by
    have h := HX.out
    rw [Nat.sub_self] at h
    have := Row.block (F := fun b => w.heap.size ≤ b) (size := 1) (n := k) (c := k) h (by rw [HG.out]; exact Nat.le_refl _) (by simp [Pure.wide_length]) (by unfold maxLen; omega) (Nat.le_refl _)
    simpa using this)
   have HKE := xhd (show Keeps y01 w wr from (HK.out.trans' HK2.out (fun i hi hl => by have e : i = g := hi; have := HG.out; omega)))
   clear hX hK HX HK HK2
   go_wp2_with fail
   go_ret
   exact ⟨_, _, rfl, HR.out, HKE.out⟩
section
variable {w : World} {k : LF} {R : Nat → Prop} {f : NF} {x : Pure.Lcp}
theorem yg3 (h : LObj w k R f x) (y : Int) (X : Nat) (hxy : (X : Int) = y % 4294967296) (F : Nat → Prop) (d : Value) (bs : List UInt8) (hd : Row w F 1 d bs.length (u8s bs)) (_ : ∀ b, F b → b < w.heap.size) (hL : bs.length ≤ 100000) :
  Calls Tryz.prog 37 #[.pointer (some ⟨k.l, 0, none⟩), .int .i64 y, d] w fun e w' => ∃ v, e = .returned v ∧ y3g w w' v (x.refuse X bs).2 ∧ y1k w w' k R (x.refuse X bs).1 := by
 obtain ⟨D, cd, rfl, hcap⟩ := hd.form
 have HI := xhd y35
 have hgl := h.obj.blk.lt
 have hml := Blk.lt h.obj.mach
 obtain ⟨ro, hro⟩ : ∃ q, q = w.heap.size := ⟨_, rfl⟩
 obtain ⟨w1, hw1⟩ : ∃ q, q = w.alloc (.cells y23.toArray 61) := ⟨_, rfl⟩
 have hk1 : Keeps y01 w w1 := by rw [hw1]; exact (Keeps.refl _ w).alloc _
 have HO := xhd (show Blk w1 ro 61 y23.toArray by rw [hw1, hro]; exact Blk.new w _ _)
 have h1 := h.quiet hk1
 have HOP := xhd (y76 h1)
 have HH := xhd h
 have HD := xhd (hd.strongN (by omega))
 have HK1 := xhd hk1
 have HRO := xhd (show w.heap.size ≤ ro by omega)
 have HRP := xhd (show ro = w.heap.size from hro)
 have HRG := xhd (show ro ≠ k.g by omega)
 have HRM := xhd (show ro ≠ f.gm by omega)
 have HNR := xhd (show ¬ R ro from fun e => by have := h.obj.lt ro e; omega)
 have HL := xhd hL
 obtain ⟨XX, hXX⟩ : ∃ q, q = x.refuse X bs := ⟨_, rfl⟩
 rw [← hXX]
 have HXX := xhd hXX
 have HXY := xhd hxy
 clear h hk1 h1 hd hL hcap hXX hxy hgl hml
 go_enter Tryz.func37, Tryz.ntmps37
 go_upto_region 1 with fail
 rw [← hro]
 rw [show w.alloc (.cells #[.slice none 0 0, .bool false, .bool false, .bool false, .bool false, .int .i64 0] 61) = w1 from hw1.symm]
 clear hw1 hro
 go_wp2_with fail
 refine HOP.out.mono ?_
 rintro e w2 ⟨rfl, rfl⟩
 by_cases hs : x.n.m.state = 9
 case neg =>
  rw [decide_eq_false hs]
  have HN := xhd (show XX = (x, Pure.LSaid.of Pure.mute) from HXX.out.trans (if_neg hs))
  clear hs HXX
  have z0 : (w1).cell? ⟨ro, 0, none⟩ = some (.slice none 0 0) := by rw [HO.out.cell]; rfl
  have f0 := HO.out.frozen 0
  have z1 : (w1).cell? ⟨ro, 1, none⟩ = some (.bool false) := by rw [HO.out.cell]; rfl
  have f1 := HO.out.frozen 1
  have z2 : (w1).cell? ⟨ro, 2, none⟩ = some (.bool false) := by rw [HO.out.cell]; rfl
  have f2 := HO.out.frozen 2
  have z3 : (w1).cell? ⟨ro, 3, none⟩ = some (.bool false) := by rw [HO.out.cell]; rfl
  have f3 := HO.out.frozen 3
  have z4 : (w1).cell? ⟨ro, 4, none⟩ = some (.bool false) := by rw [HO.out.cell]; rfl
  have f4 := HO.out.frozen 4
  have z5 : (w1).cell? ⟨ro, 5, none⟩ = some (.int .i64 0) := by rw [HO.out.cell]; rfl
  have f5 := HO.out.frozen 5
  obtain ⟨w9, hw9⟩ : ∃ q, q = (World.setCell ((World.setCell ((World.setCell ((World.setCell ((World.setCell ((World.setCell (w1) ⟨ro, 0, none⟩ (.slice none 0 0))) ⟨ro, 1, none⟩ (.bool false))) ⟨ro, 2, none⟩ (.bool false))) ⟨ro, 3, none⟩ (.bool false))) ⟨ro, 4, none⟩ (.bool false))) ⟨ro, 5, none⟩ (.int .i64 0)) := ⟨_, rfl⟩
  have HZ := xhd (show Blk w9 (ro) 61 #[.slice none 0 0, .bool false, .bool false, .bool false, .bool false, .int .i64 0] by rw [hw9]; exact ((((((HO.out.set 0 (.slice none 0 0)).set 1 (.bool false)).set 2 (.bool false)).set 3 (.bool false)).set 4 (.bool false)).set 5 (.int .i64 0)))
  have KR : Keeps (only (ro)) (w1) w9 := by rw [hw9]; exact (((((((Keeps.refl (only (ro)) (w1)).put 0 (.slice none 0 0)).put 1 (.bool false)).put 2 (.bool false)).put 3 (.bool false)).put 4 (.bool false)).put 5 (.int .i64 0))
  have HKF := xhd (show Keeps y01 w w9 from HK1.out.trans' KR (fun i hi hl => by have e : i = ro := hi; have := HRO.out; omega))
  clear KR
  go_wp2_with fail
  rw [← hw9]
  refine bodyPost_ret (y07 rfl _ _ ro 61 _ (0, 0) _ rfl HZ.out Tryz.underlying61 rfl (by rw [HI.out]; rfl)) rfl ?_
  rw [HN.out]
  exact ⟨_, rfl, ⟨_, [], rfl, PRow.nil _ _, rfl, by simp⟩, HH.out.stays HKF.out⟩
 case pos =>
  rw [decide_eq_true hs]
  have HN := xhd (show XX = ({ x with n := { x.n with id := x.n.next } }, Pure.LSaid.of ⟨[⟨8, x.n.next, (Pure.wide X 2 ++ bs).take 1496⟩], false, false, false, false⟩) from HXX.out.trans (if_pos hs))
  have HEN := xhd (show Calls Tryz.prog 92 #[.int .i64 y, .int .i64 2] w1 fun e w' => ∃ A c, e = .returned (.slice A 2 c) ∧ Row w' (fun b => w1.heap.size ≤ b) 1 (.slice A 2 c) 2 (u8s (Pure.wide X 2)) ∧ Keeps y01 w1 w' from yf2 y X 2 w1 (by omega) HXY.out)
  clear hs HXX HOP
  go_wp2_with fail
  refine HEN.out.mono ?_
  rintro e w3 ⟨A1, c1, rfl, hr3, hk3⟩
  obtain ⟨sb, hsb⟩ : ∃ q, q = w3.heap.size := ⟨_, rfl⟩
  obtain ⟨w4, hw4⟩ : ∃ q, q = w3.alloc (.cells #[.slice A1 2 c1, .slice D bs.length cd] 29) := ⟨_, rfl⟩
  have hk4 : Keeps y01 w3 w4 := by rw [hw4]; exact (Keeps.refl _ w3).alloc _
  have hB4 : Blk w4 sb 29 #[.slice A1 2 c1, .slice D bs.length cd] := by rw [hw4, hsb]; exact Blk.new w3 _ _
  obtain ⟨L, hLe⟩ : ∃ q, q = Pure.wide X 2 ++ bs := ⟨_, rfl⟩
  have hJ : joined [((.slice A1 2 c1 : Value), Pure.wide X 2), (.slice D bs.length cd, bs)] = L := by rw [hLe]; simp [joined]
  have hLL : L.length = 2 + bs.length := by rw [hLe, List.length_append, Pure.wide_length]
  have hk14 := hk3.trans hk4
  have hPT : Parts w4 sb (fun b => b < w4.heap.size) [((.slice A1 2 c1 : Value), Pure.wide X 2), (.slice D bs.length cd, bs)] := ⟨hB4, fun q hq => by
   simp only [List.mem_cons, List.not_mem_nil, or_false] at hq
   rcases hq with rfl | rfl
   ·have := ((hr3.strongN (by omega)).keeps hk4 (fun _ _ e => e)).mono (G := fun b => b < w4.heap.size) (fun b hb => Nat.lt_of_lt_of_le hb.2 hk4.size)
    rw [show (Pure.wide X 2).length = 2 from Pure.wide_length _ _]
    exact this
   ·exact (HD.out.keeps (HK1.out.trans hk14) (fun _ _ e => e)).mono (G := fun b => b < w4.heap.size) (fun b hb => Nat.lt_of_lt_of_le hb.2 (HK1.out.trans hk14).size)⟩
  have HCC := xhd (y7p (fun b => b < w4.heap.size) sb [((.slice A1 2 c1 : Value), Pure.wide X 2), (.slice D bs.length cd, bs)] w4 hPT (fun b hb => hb) (by simp) (by rw [hJ, hLL]; have := HL.out; omega))
  rw [hJ] at HCC
  have HK4 := xhd (HK1.out.trans hk14)
  have HO4 := xhd (HO.out.keeps hk14 (fun e => e))
  have HLE := xhd hLe
  have HLL := xhd hLL
  clear hr3 hk3 hk4 hB4 hJ hLL hk14 hPT hLe HEN HO
  go_wp2_with fail
  rw [← hsb, ← hw4]
  clear hsb hw4
  refine HCC.out.mono ?_
  rintro e w5 ⟨u5, rfl, hown5, hbl5⟩
  obtain ⟨A5, c5, rfl⟩ := y0c hown5
  have hk5 : Keeps y01 w4 w5 := Keeps.new hbl5
  have HK5 := xhd (HK4.out.trans hk5)
  have HO5 := xhd (HO4.out.keeps hk5 (fun e => e))
  have HG5 := xhd (fun b hb => y0f hown5 b hb)
  have HR5 := xhd ((Row.of_own hown5).strongN (by omega))
  have hcap5 : L.length ≤ c5 := by obtain ⟨_, _, A', c', e, h, _⟩ := Row.of_own hown5; injection e with _ _ e3; rw [e3]; exact h
  have h5 := HH.out.quiet HK5.out
  have HH5 := xhd h5
  have HC0 := xhd (show w5.cell? ⟨k.l, 0, none⟩ = some (.pointer (some ⟨k.g, 0, none⟩)) from h5.blk.cell 0)
  obtain ⟨m, hm⟩ : ∃ q, q = min L.length 1496 := ⟨_, rfl⟩
  have HM := xhd hm
  have hmL : m ≤ L.length := by omega
  have hmi : (m : Int) ≤ (L.length : Int) := by omega
  have hmc : (m : Int) ≤ (c5 : Int) := by omega
  have hmin : (if (1496 : Int) < (L.length : Int) then (1496 : Int) else (L.length : Int)) = (m : Int) := by split <;> omega
  have hmin2 : min (L.length : Int) 1496 = (m : Int) := by omega
  have HT5 := xhd (show Row w5 (fun b => (Value.slice A5 L.length c5).ownBlock = some b ∧ b < w5.heap.size) 1 (.slice A5 m c5) m (u8s (L.take m)) by
   have := HR5.out.take1 m hmL
   rw [← List.map_take] at this
   exact this)
  have HKZ5 := xhd (Keeps.refl y01 w5)
  clear hown5 hbl5 hk5 h5 hm
  go_upto_region 4 with fail
  refine y0b (fun w' => w'.cell? ⟨k.l, 0, none⟩ = some (.pointer (some ⟨k.g, 0, none⟩))) 11 12 rfl (by kernel_rfl) HC0.out (fun hHeld => ?_)
  have HSW := hHeld
  clear hHeld
  have HK0d := xhd (HKZ5.out.drew)
  refine y00 (i := 0) rfl (by kernel_rfl) (fun _ _ _ h => h) (Or.inl ⟨by rfl, by intro w hSw; skip; go_simp; try with_reducible rfl⟩) HSW.out ?_
  simp only [Act.put, xqA, xqB, xqD, xqE, xqF]
  refine y00 (i := 1) rfl (by kernel_rfl) (fun _ _ _ h => h) (Or.inl ⟨by rfl, by intro w hSw; skip; go_simp; try with_reducible rfl⟩) HSW.out ?_
  simp only [Act.put, xqA, xqB, xqC, xqD, xqE, xqF]
  refine y00 (i := 2) rfl (by kernel_rfl) (fun _ _ _ h => h) (Or.inl ⟨by rfl, by intro w hSw; skip; go_simp; try with_reducible rfl⟩) HSW.out ?_
  simp only [Act.put, xqA, xqB, xqC, xqD, xqE, xqF]
  refine y00 (i := 3) rfl (by kernel_rfl) (fun _ _ _ h => h) (Or.inl ⟨by rfl, by intro w hSw; skip; go_simp; try with_reducible rfl⟩) HSW.out ?_
  simp only [Act.put, xqA, xqB, xqC, xqD, xqE, xqF]
  refine y00 (i := 4) rfl (by kernel_rfl) (fun _ _ _ h => h) (Or.inl ⟨by rfl, by intro w hSw; skip; go_simp; try with_reducible rfl⟩) HSW.out ?_
  simp only [Act.put, xqA, xqB, xqC, xqD, xqE, xqF]
  refine y00 (i := 5) rfl (by kernel_rfl) (fun _ _ _ h => h) (Or.inl ⟨by rfl, by intro w hSw; skip; go_simp; try with_reducible rfl⟩) HSW.out ?_
  simp only [Act.put, xqA, xqB, xqC, xqD, xqE, xqF]
  refine y00 (i := 6) rfl (by kernel_rfl) (fun _ _ _ h => h) (Or.inl ⟨by rfl, by intro w hSw; skip; go_simp; try with_reducible rfl⟩) HSW.out ?_
  simp only [Act.put, xqA, xqB, xqC, xqD, xqE, xqF]
  refine y00 (i := 7) rfl (by kernel_rfl) (fun _ _ _ h => h) (Or.inl ⟨by rfl, by intro w hSw; skip; go_simp; try with_reducible rfl⟩) HSW.out ?_
  simp only [Act.put, xqA, xqB, xqC, xqD, xqE, xqF]
  refine y00 (i := 8) rfl (by kernel_rfl) (fun _ _ _ h => h) (Or.inl ⟨by rfl, by intro w hSw; skip; go_simp; try with_reducible rfl⟩) HSW.out ?_
  simp only [Act.put, xqA, xqB, xqC, xqD, xqE, xqF]
  refine y03 (i := 9) (by kernel_rfl) rfl (fun K hK => ?_)
  try rw [if_pos (by rfl)]
  go_simp
  refine (nown_any _ k.g R f x.n 8 (.slice A5 m c5) (L.take m) _ (HH5.out.quiet HK0d.out).obj (by have := HT5.out.keeps HK0d.out (fun _ _ e => e); rw [List.length_take, Nat.min_eq_left hmL]; exact this) (by rw [List.length_take]; have := HLL.out; have := HL.out; omega)).mono ?_
  rintro e w6 ⟨A6, c6, rfl, hr6, hb6⟩
  rw [List.length_take, Nat.min_eq_left hmL] at hr6 ⊢
  have HB6 := xhd hb6
  have HR6 := xhd hr6
  have hk6 : Keeps (fun b => b = k.g ∨ b = f.gm.m) w5.drew w6 := by obtain ⟨_, _, _, _, _, hk⟩ := hb6; exact hk
  have HO6 := xhd ((HO5.out.keeps HK0d.out (fun e => e)).keeps hk6 (fun e => e.elim HRG.out HRM.out))
  have HS6 := xhd (show w6.cell? ⟨k.l, 0, none⟩ = some (.pointer (some ⟨k.g, 0, none⟩)) from ((HH5.out.blk.keeps HK0d.out (fun e => e)).keeps hk6 (fun e => e.elim HH5.out.lg (by rw [HH5.out.gm]; exact HH5.out.lm))).cell 0)
  have HK6 := xhd hk6
  clear hr6 hb6 hk6
  refine hK.out _ _ (fun _ => HS6.out) ?_
  clear hK K
  try simp only [Act.put, xqA, Nat.reduceAdd, xqB, xqC, xqD, xqE, xqF]
  refine y03 (i := 10) (by kernel_rfl) rfl (fun K hK => ?_)
  try rw [if_pos (by rfl)]
  go_simp
  refine (yba _ ⟨8, (x.n.next : Int), L.take m⟩ (.slice A6 m c6) w6 (by show Row w6 _ 1 (.slice A6 m c6) (L.take m).length (u8s (L.take m)); rw [List.length_take, Nat.min_eq_left hmL]; exact HR6.out)).mono ?_
  rintro e w7 ⟨s7, rfl, hp7, hk7⟩
  have HP7 := xhd hp7
  have HO7 := xhd (HO6.out.keeps hk7 (fun e => e))
  have HK7 := xhd hk7
  have HS7 := xhd (y04 HS6.out hk7)
  clear hp7 hk7
  refine hK.out _ _ (fun _ => HS7.out) ?_
  clear hK K
  try simp only [Act.put, xqA, Nat.reduceAdd, xqB, xqC, xqD, xqE, xqF]
  have hO7 := HO7.out
  have z0 : (w7).cell? ⟨ro, 0, none⟩ = some (.slice none 0 0) := by rw [hO7.cell]; rfl
  have f0 := hO7.frozen 0
  have z1 : (w7).cell? ⟨ro, 1, none⟩ = some (.bool false) := by rw [hO7.cell]; rfl
  have f1 := hO7.frozen 1
  have z2 : (w7).cell? ⟨ro, 2, none⟩ = some (.bool false) := by rw [hO7.cell]; rfl
  have f2 := hO7.frozen 2
  have z3 : (w7).cell? ⟨ro, 3, none⟩ = some (.bool false) := by rw [hO7.cell]; rfl
  have f3 := hO7.frozen 3
  have z4 : (w7).cell? ⟨ro, 4, none⟩ = some (.bool false) := by rw [hO7.cell]; rfl
  have f4 := hO7.frozen 4
  have z5 : (w7).cell? ⟨ro, 5, none⟩ = some (.int .i64 0) := by rw [hO7.cell]; rfl
  have f5 := hO7.frozen 5
  obtain ⟨w9, hw9⟩ : ∃ q, q = (World.setCell ((World.setCell ((World.setCell ((World.setCell ((World.setCell ((World.setCell (w7) ⟨ro, 0, none⟩ (.slice (some ⟨s7, 0, none⟩) 1 1))) ⟨ro, 1, none⟩ (.bool false))) ⟨ro, 2, none⟩ (.bool false))) ⟨ro, 3, none⟩ (.bool false))) ⟨ro, 4, none⟩ (.bool false))) ⟨ro, 5, none⟩ (.int .i64 0)) := ⟨_, rfl⟩
  have HZ := xhd (show Blk w9 (ro) 61 #[.slice (some ⟨s7, 0, none⟩) 1 1, .bool false, .bool false, .bool false, .bool false, .int .i64 0] by rw [hw9]; exact ((((((hO7.set 0 (.slice (some ⟨s7, 0, none⟩) 1 1)).set 1 (.bool false)).set 2 (.bool false)).set 3 (.bool false)).set 4 (.bool false)).set 5 (.int .i64 0)))
  have KR : Keeps (only (ro)) (w7) w9 := by rw [hw9]; exact (((((((Keeps.refl (only (ro)) (w7)).put 0 (.slice (some ⟨s7, 0, none⟩) 1 1)).put 1 (.bool false)).put 2 (.bool false)).put 3 (.bool false)).put 4 (.bool false)).put 5 (.int .i64 0))
  have HKR := xhd KR
  have HW9 := xhd hw9
  clear KR hO7 hw9
  refine y03 (i := 11) (by kernel_rfl) rfl (fun K hK => ?_)
  go_simp
  refine hK.out _ _ (fun h => absurd rfl h) ?_
  clear hK K
  refine y09 (by kernel_rfl) ?_ _
  rw [← HW9.out]
  go_wp2_with fail
  refine bodyPost_ret (y07 rfl _ _ ro 61 _ (0, 0) _ rfl HZ.out Tryz.underlying61 rfl (by rw [HI.out]; rfl)) rfl ?_
  have hkA := HK5.out.trans HK0d.out
  have hk79 : Keeps (only ro) w6 w9 := (HK7.out.mono (fun _ e => e.elim)).trans HKR.out
  have hbec := HB6.out.close (f := f) (w0 := w) rfl (fun b hb => .inl hb) (hkA.mono (fun _ e => e.elim)) hk79 HRO.out (by have := HO5.out.lt; exact this) (fun e => HRG.out e.symm) (fun e => HRM.out e.symm) HNR.out
  have hturn := HH.out.turned (n' := { x.n with id := x.n.next }) rfl hbec
  rw [HN.out]
  have hro7 := HO5.out.lt
  refine ⟨_, rfl, ⟨_, [(.slice A6 m c6, ⟨8, (x.n.next : Int), L.take m⟩)], rfl, ((HP7.out.keeps HKR.out (fun b hb e => ?_)).mono (fun b hb => ⟨?_, Nat.lt_of_lt_of_le hb.2 HKR.out.size⟩)), ?_, by simp⟩, hturn⟩
  ·have e : b = ro := e
   rcases hb.1 with hb | hb
   ·have := hb.1; have h5 : w5.drew.heap.size = w5.heap.size := rfl; omega
   ·have := HK6.out.size; have h5 : w5.drew.heap.size = w5.heap.size := rfl; omega
  ·rcases hb.1 with hb | hb
   ·exact Nat.le_trans hkA.size hb.1
   ·exact Nat.le_trans hkA.size (Nat.le_trans HK6.out.size hb)
  ·show [(⟨8, (x.n.next : Int), L.take m⟩ : Pure.Pkt)] = [⟨8, (x.n.next : Int), (Pure.wide X 2 ++ bs).take 1496⟩]
   rw [← HLE.out, HM.out]
   congr 2
   rw [List.take_eq_take_iff]; omega
end
namespace Pure
def linkAt (a b : Cfg) (ma mb : Nat) (t u i j : Nat) : Lcp := ⟨a, y06 a.rules (a.ask ma) (restOf a b ma) (restOf b a mb) (rOf a b ma) t u i j⟩
def lpkt (a b : Cfg) (m : Nat) (i : Nat) : Pkt := y1g (a.ask m) (y5x a b m) (restOf a b m) (rOf a b m) i
theorem y28 (rules : List Rule) (ask rest theirs : List Opt) (r : Bool) (t u i j : Nat) : 1 < (y06 rules ask rest theirs r t u i j).m.state := by
 show 1 < stOf i j
 unfold stOf
 split <;> split <;> decide
theorem y69 {a b : Cfg} {ma mb : Nat} (ha : a.fine = true) (hb : b.fine = true) (hs : a.server = !b.server) (hma : ma < 4294967296) (hmb : mb < 4294967296) (h0a : ma ≠ 0) (h0b : mb ≠ 0) (hne : ma ≠ mb) {t : Nat} (ht : 1 ≤ t) (u : Nat) :
  Ends y1q (linkAt a b ma mb t u) (lpkt a b ma) (lpkt b a mb) (rOf a b ma) (rOf b a mb) := by
 have hs' : b.server = !a.server := by rw [hs, Bool.not_not]
 have H := y6a (u := u) (y4a ha hs ma) (y4a hb hs' mb) ht
 refine ⟨fun i j hi hj h => ?_, fun i j hi hj => ?_⟩
 ·refine y1t (y5w (y28 _ _ _ _ _ _ _ _ _) ?_) (H.told i j hi hj h)
  rcases h with ⟨rfl, _⟩ | rfl
  ·exact .inr (.inr rfl)
  ·exact .inl rfl
 ·have key : ∀ l, Fine l → (readVals l).magic = mb → ∀ id : Int, (linkAt a b ma mb t u i j).input ⟨1, id, (options l).2⟩ = (linkAt a b ma mb t u i j).with ((linkAt a b ma mb t u i j).n.input ⟨1, id, (options l).2⟩) := fun l hf hm id => by
   rw [y5d (y28 _ _ _ _ _ _ _ _ _) rfl, y3v (y28 _ _ _ _ _ _ _ _ _) rfl (.inr ?_)]
   rw [y0e hf, hm]
   have ho : (readVals (split (linkAt a b ma mb t u i j).n.ours).2).magic = ma := by
    show (readVals (split (options (if i ≤ 1 then a.ask ma else restOf a b ma)).2).2).magic = ma
    split
    ·rw [y0e (ask_fine a ma)]; exact y31 hma h0a
    ·rw [y0e (y0w (ask_fine a ma) _)]; exact rest_magic hma h0a
   rw [ho]
   exact fun e => hne e.symm
  rcases hj with rfl | ⟨rfl, hr⟩
  ·exact y1t (key _ (ask_fine b mb) (y31 hmb h0b) 1) (H.asked i 0 hi (.inl rfl))
  ·exact y1t (key _ (y0w (ask_fine b mb) _) (rest_magic hmb h0b) 2) (H.asked i 2 hi (.inr ⟨rfl, hr⟩))
end Pure
namespace Pure
theorem y2k (a b : Cfg) (m i : Nat) : (lpkt a b m i).data.length ≤ 1000000 := by
 have f1 := y1d (ask_fine a m)
 have f2 := y1d (y0w (ask_fine a m) fun o => !b.knows o)
 have f3 := y1d (y0w (ask_fine a m) b.knows)
 unfold lpkt y1g
 split
 ·exact Nat.le_trans f1 (by decide)
 ·split
  ·exact Nat.le_trans f2 (by decide)
  ·split
   ·exact Nat.le_trans f3 (by decide)
   ·exact Nat.le_trans f3 (by decide)
theorem y4u (rules : List Rule) (ask rest theirs : List Opt) (r : Bool) (t u j i : Nat) (hi : i = 1 ∨ i = 3) : y06 rules ask rest theirs r t u j i = y06 rules ask rest theirs r t u j (i + 1) := by
 rcases hi with rfl | rfl
 ·unfold y06 stOf
  simp only [show (3 ≤ 1) = False from by simp, show (3 ≤ 1 + 1) = False from by simp]
 ·unfold y06 stOf
  simp only [show (3 ≤ 3) = True from by simp, show (3 ≤ 3 + 1) = True from by simp]
theorem y3y (rules : List Rule) (ask rest theirs : List Opt) (r : Bool) (t u i j : Nat) (hr : r = false → rest = ask) (hj : j = 0 ∨ j = 2) (hr2 : j = 2 → r = true) : y06 rules ask rest theirs r t u j i = y06 rules ask rest theirs r t u (y0h r j) i := by
 rcases hj with rfl | rfl
 ·cases r
  ·have := hr rfl
   subst this
   unfold y06 stOf y0h idOf
   simp
  ·unfold y06 stOf y0h idOf
   simp
 ·have := hr2 rfl
  subst this
  unfold y06 stOf y0h idOf
  simp
section
variable {a b : Cfg} {ma mb : Nat}
theorem y3k (a b : Cfg) (ma mb t u : Nat) : (⟨a, begun a.rules (a.ask ma) t u⟩ : Lcp) = linkAt a b ma mb t u 0 0 := by
 unfold linkAt y06 begun stOf idOf
 simp
def duoP (a b : Cfg) (ma mb t u t' u' : Nat) (k : Nat) (q r : List Pkt) (X Y : Lcp) : Prop :=
 ∃ i j, k ≤ i + j ∧ DuoAt (lpkt a b ma) (lpkt b a mb) (rOf a b ma) (rOf b a mb) i j q r ∧ X = linkAt a b ma mb t u i j ∧ Y = linkAt b a mb ma t' u' j i
theorem y32 {t u t' u' k : Nat} {q r : List Pkt} {X Y : Lcp} (h : duoP a b ma mb t u t' u' k q r X Y) : duoP b a mb ma t' u' t u k r q Y X := by
 obtain ⟨i, j, h1, h2, h3, h4⟩ := h
 exact ⟨j, i, by omega, h2.swap, h4, h3⟩
theorem y3m (ha : a.fine = true) (hb : b.fine = true) (hs : a.server = !b.server) (hma : ma < 4294967296) (hmb : mb < 4294967296) (h0a : ma ≠ 0) (h0b : mb ≠ 0) (hne : ma ≠ mb) {t : Nat} (ht : 1 ≤ t) (u t' u' : Nat) {k : Nat} {p : Pkt} {q l : List Pkt} {X Y : Lcp} (h : duoP a b ma mb t u t' u' k (p :: q) l X Y) :
  duoP a b ma mb t u t' u' (k + 1) q (l ++ (X.input p).2.said.send) (X.input p).1 Y := by
 obtain ⟨i, j, h1, h2, rfl, rfl⟩ := h
 obtain ⟨i', j', o, e, h3, h4, h5⟩ := h2.hear (y69 ha hb hs hma hmb h0a h0b hne ht u)
 unfold y1q at e
 injection e with e1 e2
 rw [e1, e2]
 refine ⟨i', j', by omega, h3, rfl, ?_⟩
 rcases h5 with ⟨rfl, rfl, hi⟩ | ⟨rfl, rfl, hj⟩
 ·unfold linkAt
  rw [y4u _ _ _ _ _ _ _ _ _ hi]
 ·unfold linkAt
  rw [y3y _ _ _ _ _ _ _ _ _ y85 hj (fun e => h2.rj (.inr e))]
theorem duo_talks (ha : a.fine = true) (hb : b.fine = true) (hs : a.server = !b.server) (hma : ma < 4294967296) (hmb : mb < 4294967296) (h0a : ma ≠ 0) (h0b : mb ≠ 0) (hne : ma ≠ mb) {t t' : Nat} (ht : 1 ≤ t) (ht' : 1 ≤ t') (u u' : Nat) :
  Talks 8 (duoP a b ma mb t u t' u') := by
 refine ⟨fun h => y3m ha hb hs hma hmb h0a h0b hne ht u t' u' h, fun h => ?_, fun h => ?_, fun h => ?_, fun h hq => ?_, fun h => ?_⟩
 ·exact y32 (y3m hb ha (by rw [hs, Bool.not_not]) hmb hma h0b h0a (fun e => hne e.symm) ht' u' t u (y32 h))
 ·obtain ⟨i, j, h1, h2, rfl, rfl⟩ := h
  exact ⟨⟨Nat.zero_le _, Nat.zero_le _⟩, Nat.zero_le _, Nat.zero_le _⟩
 ·obtain ⟨i, j, h1, h2, rfl, rfl⟩ := h
  have hl := h2.short
  refine ⟨⟨by omega, by omega⟩, fun p hp => ?_, fun p hp => ?_⟩
  ·have hm := h2.x.mem_iff.1 hp
   unfold waits at hm
   rw [List.mem_append] at hm
   rcases hm with hm | hm <;> split at hm <;> first | (rw [List.mem_singleton.1 hm]; exact y2k _ _ _ _) | cases hm
  ·have hm := h2.y.mem_iff.1 hp
   unfold waits at hm
   rw [List.mem_append] at hm
   rcases hm with hm | hm <;> split at hm <;> first | (rw [List.mem_singleton.1 hm]; exact y2k _ _ _ _) | cases hm
 ·obtain ⟨i, j, h1, h2, rfl, rfl⟩ := h
  have := h2.goes hq
  omega
 ·obtain ⟨i, j, h1, h2, rfl, rfl⟩ := h
  have := h2.i4
  have := h2.j4
  omega
theorem duo_start (t u t' u' : Nat) : duoP a b ma mb t u t' u' 0 [⟨1, 1, (options (b.ask mb)).2⟩] [⟨1, 1, (options (a.ask ma)).2⟩] ⟨a, begun a.rules (a.ask ma) t u⟩ ⟨b, begun b.rules (b.ask mb) t' u'⟩ :=
 ⟨0, 0, Nat.le_refl _, DuoAt.start, y3k a b ma mb t u, y3k b a mb ma t' u'⟩
theorem duo_done {t u t' u' k : Nat} {X Y : Lcp} (h : duoP a b ma mb t u t' u' k [] [] X Y) : X = linkAt a b ma mb t u 4 4 ∧ Y = linkAt b a mb ma t' u' 4 4 := by
 obtain ⟨i, j, h1, h2, rfl, rfl⟩ := h
 obtain ⟨rfl, rfl⟩ := h2.done
 exact ⟨rfl, rfl⟩
end
end Pure
end Go.Proofs.YtmgicbckgpdkcaaGreatDoor
