/- Package nego: isRequest, bytesOf; refused. -/
import Derived.Test.YtmgicbckgpdkcaaGreatDoorQ15
import Derived.Test.YtmgicbckgpdkcaaGreatDoorQ16
import Derived.Test.YtmgicbckgpdkcaaGreatDoorQ4
import Derived.Test.YtmgicbckgpdkcaaGreatDoorQ14
import Derived.Deep.DeepCutAuto
namespace Go.Proofs.YtmgicbckgpdkcaaGreatDoor
open Lib renaming hid → xhd
open List renaming setIfInBounds_toArray → xqA, getElem_toArray → xqB, getElem_cons_succ → xqC, getElem_cons_zero → xqD, set_cons_succ → xqE, set_cons_zero → xqF
open Go.RowKit
structure FewRules (us : List (Value × Pure.Rule)) : Prop where
 len : us.length ≤ 100000
 ok : ∀ p ∈ us, p.2.Ok ∧ p.2.want.length ≤ 100000
structure FewOpts (zs : List (Value × Pure.Opt)) : Prop where
 len : zs.length ≤ 100000
 data : ∀ p ∈ zs, p.2.2.length ≤ 100000
theorem dead_ok : Pure.deadRule.Ok := fun h => by simp [Pure.deadRule] at h
theorem FewRules.pick {us : List (Value × Pure.Rule)} (h : FewRules us) {r : Pure.Rule} (hp : (∃ p ∈ us, p.2 = r) ∨ r = Pure.deadRule) : r.Ok ∧ r.want.length ≤ 100000 := by
 rcases hp with ⟨p, hp, rfl⟩ | rfl
 ·exact h.ok p hp
 ·exact ⟨dead_ok, by simp [Pure.deadRule]⟩
theorem isRequest_any (F : Nat → Prop) (x : Value) (ps : List (Value × Pure.Opt)) (w : World) (hF : ∀ b, F b → b < w.heap.size) (hx : ORow w F x ps) :
  Calls Tryz.prog 115 #[x] w fun e w' => e = .returned (.bool (decide ((Pure.options (optsOf ps)).1 = 0))) ∧ Keeps nobody w w' := by
 have HO := xhd (options_any F x ps w hF hx)
 have HD := xhd (show decide ((Pure.options (optsOf ps)).1 = 0) = ((((Pure.options (optsOf ps)).1 : Nat) : Int) == 0) by
  by_cases h : (Pure.options (optsOf ps)).1 = 0
  ·rw [h]; rfl
  ·rw [decide_eq_false h]; symm; rw [beq_eq_false_iff_ne]; omega)
 clear hF hx
 go_enter Tryz.func115, Tryz.ntmps115
 go_wp2_with fail
 refine HO.out.mono ?_
 rintro e w1 ⟨u, rfl, hu, hb⟩
 obtain ⟨A, c, rfl⟩ := own_form hu
 have HK := xhd (Keeps.new hb)
 clear hu hb HO
 go_wp2_with fail
 go_ret
 exact ⟨by rw [HD.out]; rfl, HK.out⟩
theorem bytesOf_any (F : Nat → Prop) (x : Value) (ps : List (Value × Pure.Opt)) (w : World) (hF : ∀ b, F b → b < w.heap.size) (hx : ORow w F x ps) :
  Calls Tryz.prog 191 #[x] w fun e w' => ∃ A c, e = .returned (.slice A (Pure.options (optsOf ps)).2.length c) ∧ Row w' (fun b => w.heap.size ≤ b) 1 (.slice A (Pure.options (optsOf ps)).2.length c) (Pure.options (optsOf ps)).2.length (u8s (Pure.options (optsOf ps)).2) ∧ Keeps nobody w w' := by
 have HO := xhd (options_any F x ps w hF hx)
 clear hF hx
 go_enter Tryz.func191, Tryz.ntmps191
 go_wp2_with fail
 refine HO.out.mono ?_
 rintro e w1 ⟨u, rfl, hu, hb⟩
 obtain ⟨A, c, rfl⟩ := own_form hu
 have HU := xhd ((Row.of_own hu).mono (G := fun b => w.heap.size ≤ b) (fun b hb => ownsRow_ge hu b hb))
 have HK := xhd (Keeps.new hb)
 clear hu hb HO
 go_wp2_with fail
 go_ret
 exact ⟨_, _, rfl, HU.out, HK.out⟩
namespace Pure
end Pure
section
variable {w0 w : World} {o : Oper} {a : Act} {Q : Exit → Act → World → Prop}
end
theorem Read.since {w0 w1 w2 : World} {v : Value} {qs : List (Value × Pure.Opt)} (h : Read w1 w2 v qs) (k : Keeps nobody w0 w1) : Read w0 w2 v qs :=
 ⟨ownsRow_base h.own k.size, fun p hp => (h.rows p hp).mono (fun _ hb => ⟨Nat.le_trans k.size hb.1, hb.2⟩), (k.trans (Keeps.new h.below)).to_below⟩
namespace Pure
end Pure
namespace Pure
end Pure
theorem optCells_set (qs : List (Value × Pure.Opt)) (k : Nat) (t : Int) (D d : List UInt8) (u v : Value) (h : qs[k]? = some (u, (t, D))) : (optCells qs).set (2 * k + 1) v = optCells (qs.set k (v, (t, d))) := by
 induction qs generalizing k with
 | nil => simp at h
 | cons q qs ih =>
  rcases k with _ | k
  ·simp at h
   subst h
   rfl
  ·have := ih k (by simpa using h)
   rw [show 2 * (k + 1) + 1 = (2 * k + 1) + 1 + 1 by omega]
   show (Value.int .i64 q.2.1 :: q.1 :: optCells qs).set ((2 * k + 1) + 1 + 1) v = Value.int .i64 q.2.1 :: q.1 :: optCells (qs.set k (v, (t, d)))
   rw [xqE, xqE, this]
theorem Read.put {w0 w : World} {g n c : Nat} {qs : List (Value × Pure.Opt)} (h : Read w0 w (.slice (some ⟨g, 0, none⟩) n c) qs) (k : Nat) (o : Pure.Opt) (d : List UInt8) (A : Option Addr) (cc : Nat) (hk : ∃ u, qs[k]? = some (u, o))
  (hd : Row w (fun b => w0.heap.size ≤ b ∧ (Value.slice (some ⟨g, 0, none⟩) n c).ownBlock ≠ some b ∧ b < w.heap.size) 1 (.slice A d.length cc) d.length (u8s d)) :
  (∃ u, w.cell? ⟨g, k * 2 + 1, none⟩ = some u) ∧ w.frozen? ⟨g, k * 2 + 1, none⟩ = false ∧ Read w0 (w.setCell ⟨g, k * 2 + 1, none⟩ (.slice A d.length cc)) (.slice (some ⟨g, 0, none⟩) n c) (qs.set k (.slice A d.length cc, (o.1, d))) := by
 obtain ⟨u, hk⟩ := hk
 obtain ⟨t, D⟩ := o
 have hkl := (List.getElem?_eq_some_iff.1 hk).1
 obtain ⟨h1, h2⟩ := h.own
 rcases h2 with ⟨e, _⟩ | ⟨g', cap, cur, e, hg, hh, h3, h4, h5, h6⟩
 ·cases e
 ·injection e with e1 e2 e3
  injection e1 with e1
  injection e1 with e1
  subst e1 e2 e3
  have hb : Blk w g _ cur := hh
  have hsz : k * 2 + 1 < cur.size := by omega
  refine ⟨⟨cur[k * 2 + 1], by rw [hb.cell, Array.getElem?_eq_getElem hsz]⟩, hb.frozen _, ?_⟩
  have hK : Keeps (only g) w (w.setCell ⟨g, k * 2 + 1, none⟩ (.slice A d.length cc)) := (Keeps.refl (only g) w).store g (k * 2 + 1) (fun _ => rfl) _
  have hwsz : (w.setCell ⟨g, k * 2 + 1, none⟩ (.slice A d.length cc)).heap.size = w.heap.size := by simp [World.setCell]
  refine ⟨⟨?_, .inr ⟨g, c, _, by rw [List.length_set], hg, hb.set (k * 2 + 1) _, by rw [List.length_set]; exact h3, h4, by rw [Array.size_setIfInBounds]; exact h5, ?_⟩⟩, fun p hp => ?_, ?_⟩
  ·rw [optCells_length]
  ·rw [Array.toList_setIfInBounds, List.length_set, List.take_set, h6, show k * 2 + 1 = 2 * k + 1 by omega]
   exact optCells_set qs k t D d u _ hk
  ·have hrow : Row w (fun b => w0.heap.size ≤ b ∧ (Value.slice (some ⟨g, 0, none⟩) qs.length c).ownBlock ≠ some b ∧ b < w.heap.size) 1 p.1 p.2.2.length (u8s p.2.2) := by
    rcases List.mem_or_eq_of_mem_set hp with hp | rfl
    ·exact h.rows p hp
    ·exact hd
   have h7 := hrow.keeps hK (fun b hb e => hb.2.1 (by have e : b = g := e; rw [e]; rfl))
   refine h7.mono (fun b hb => ⟨hb.1, ?_, by rw [hwsz]; exact hb.2.2⟩)
   exact hb.2.1
  ·exact Below.keeps h.below hK h.below.size (fun i hi => by have e : i = g := hi; rw [e]; exact hg)
theorem fsmStep_out {s e : Int} (h : ¬ (0 ≤ s ∧ s ≤ 9 ∧ 0 ≤ e ∧ e < 16)) : Pure.fsmStep s e = ([], s) := if_neg h
theorem fsmStep_in (s e : Nat) (hs : s < 10) (he : e < 16) : Pure.fsmStep s e = ((Pure.fsmAt s e).1, ((Pure.fsmAt s e).2 : Int)) := by
 unfold Pure.fsmStep
 rw [if_pos (by omega)]
 rfl
theorem act_other (m : Pure.Mach) (a : Nat) (h4 : a ≠ 4) (h5 : a ≠ 5) (h6 : a ≠ 6) (h9 : a ≠ 9) : m.act a = m := by
 unfold Pure.Mach.act
 rw [if_neg h4, if_neg h5, if_neg (by omega)]
theorem Row.ints_at {w : World} {F : Nat → Prop} {A : Option Addr} {c : Nat} {l : List Nat} (h : Row w F 1 (.slice A l.length c) l.length (ints l)) (k : Nat) (hk : k < l.length) :
  ∃ b off, A = some ⟨b, off, none⟩ ∧ F b ∧ w.cell? ⟨b, off + k, none⟩ = some (.int .i64 ((l.getD k 0 : Nat) : Int)) := by
 obtain ⟨b, off, e, hF, hc⟩ := h.cellAt (by omega)
 exact ⟨b, off, e, hF, hc k _ (Go.Proofs.YtmgicbckgpdkcaaGreatDoor.ints_at l k hk)⟩
def mayBe (t u : Int) : Prop := 1 ≤ t ∧ t ≤ 1000 ∧ 1 ≤ u ∧ u ≤ 1000
instance (t u : Int) : Decidable (mayBe t u) := by unfold mayBe; infer_instance
def progCells (m : Pure.Mach) : Array Value := #[.int .i64 (m.tries : Nat), .int .i64 (m.timeout : Nat), .int .i64 (m.state : Nat), .int .i64 (m.count : Nat), .int .i64 (m.left : Nat)]
def PMach (w : World) (g : Nat) (m : Pure.Mach) : Prop := Blk w g 208 (progCells m)
theorem PMach.keeps {S : Nat → Prop} {w w' : World} {g : Nat} {m : Pure.Mach} (h : PMach w g m) (k : Keeps S w w') (hs : ¬ S g) : PMach w' g m := Blk.keeps h k hs
theorem setting_any (n : Int) (w : World) : Calls Tryz.prog 154 #[.int .i64 n] w fun r w' => r = .returned (.bool (decide (1 ≤ n ∧ n ≤ 1000))) ∧ w = w' := by
 by_cases h1 : 1 ≤ n
 ·by_cases h2 : n ≤ 1000
  ·have d1 : decide (1 ≤ n) = true := decide_eq_true h1
   have d2 : decide (n ≤ 1000) = true := decide_eq_true h2
   have HR := xhd (show decide (1 ≤ n ∧ n ≤ 1000) = true from decide_eq_true ⟨h1, h2⟩)
   clear h1 h2
   go_enter Tryz.func154, Tryz.ntmps154
   go_wp2
   go_ret
   exact ⟨by rw [HR.out]; rfl, rfl⟩
  ·have d1 : decide (1 ≤ n) = true := decide_eq_true h1
   have d2 : decide (n ≤ 1000) = false := decide_eq_false h2
   have HR := xhd (show decide (1 ≤ n ∧ n ≤ 1000) = false from decide_eq_false fun h => h2 h.2)
   clear h1 h2
   go_enter Tryz.func154, Tryz.ntmps154
   go_wp2
   go_ret
   exact ⟨by rw [HR.out]; rfl, rfl⟩
 ·have d1 : decide (1 ≤ n) = false := decide_eq_false h1
  have HR := xhd (show decide (1 ≤ n ∧ n ≤ 1000) = false from decide_eq_false fun h => h1 h.1)
  clear h1
  go_enter Tryz.func154, Tryz.ntmps154
  go_wp2
  go_ret
  exact ⟨by rw [HR.out]; rfl, rfl⟩
theorem new_ok (t u : Nat) (w : World) (h : mayBe t u) : Calls Tryz.prog 114 #[.int .i64 t, .int .i64 u] w fun r w' => r = .returned (.tuple #[.pointer (some ⟨w.heap.size, 0, none⟩), .int .i64 0]) ∧ PMach w' w.heap.size (Pure.newMach t u) ∧ Keeps nobody w w' := by
 unfold mayBe at h
 have S1 := setting_any t w
 have S2 := setting_any u w
 rw [decide_eq_true (show 1 ≤ (t : Int) ∧ (t : Int) ≤ 1000 by omega)] at S1
 rw [decide_eq_true (show 1 ≤ (u : Int) ∧ (u : Int) ≤ 1000 by omega)] at S2
 have H1 := xhd S1
 have H2 := xhd S2
 have HB := xhd (show PMach (w.alloc (.cells (progCells (Pure.newMach t u)) 208)) w.heap.size (Pure.newMach t u) from Blk.new w _ _)
 have HK := xhd ((Keeps.refl nobody w).alloc (.cells (progCells (Pure.newMach t u)) 208))
 clear h S1 S2
 go_enter Tryz.func114, Tryz.ntmps114
 go_wp2_with fail
 refine H1.out.mono ?_
 rintro r w1 ⟨rfl, rfl⟩
 go_wp2_with fail
 refine H2.out.mono ?_
 rintro r w1 ⟨rfl, rfl⟩
 go_wp2
 go_ret2
 exact ⟨rfl, HB.out, HK.out⟩
section
variable (g : Nat) (m : Pure.Mach) (w : World)
theorem made_any (hm : PMach w g m) (ht : 1 ≤ m.tries) : Calls Tryz.prog 165 #[.pointer (some ⟨g, 0, none⟩)] w fun r w' => r = .returned (.bool true) ∧ w = w' := by
 have c0 : w.cell? ⟨g, 0, none⟩ = some (.int .i64 (m.tries : Nat)) := by rw [Blk.cell hm]; rfl
 have d0 : decide ((0 : Int) < (m.tries : Int)) = true := decide_eq_true (by omega)
 have d1 : decide (0 < m.tries) = true := decide_eq_true (by omega)
 clear hm ht
 go_enter Tryz.func165, Tryz.ntmps165
 go_wp2
 go_ret
 exact ⟨rfl, rfl⟩
theorem state_any (hm : PMach w g m) (ht : 1 ≤ m.tries) : Calls Tryz.prog 145 #[.pointer (some ⟨g, 0, none⟩)] w fun r w' => r = .returned (.int .i64 (m.state : Nat)) ∧ w = w' := by
 have c0 : w.cell? ⟨g, 2, none⟩ = some (.int .i64 (m.state : Nat)) := by rw [Blk.cell hm]; rfl
 have HM := xhd (made_any g m w hm ht)
 clear hm ht
 go_enter Tryz.func145, Tryz.ntmps145
 go_wp2_with fail
 refine HM.out.mono ?_
 rintro r w1 ⟨rfl, rfl⟩
 go_wp2
 go_ret
 exact ⟨rfl, rfl⟩
end
def Ans (w : World) (r : Ending) (w' : World) (l : List Nat) (n : Int) : Prop :=
 ∃ A c, r = .returned (.tuple #[.slice A l.length c, .int .i64 n]) ∧ Row w' (fun b => w.heap.size ≤ b) 1 (.slice A l.length c) l.length (ints l) ∧ Below w.heap.size w w'
theorem Ans.none (w : World) (n : Int) : Ans w (.returned (.tuple #[.slice Option.none 0 0, .int .i64 n])) w [] n := ⟨_, _, rfl, Row.nil _ _ _, Below.refl _ _⟩
theorem Ans.some (w : World) (l : List Nat) (cs : Array Value) (k : Nat) (n : Int) (hc : cs = (ints l).toArray) (hk : k = l.length) (hl : l.length ≤ 100000) :
  Ans w (.returned (.tuple #[.slice (.some ⟨w.heap.size, 0, Option.none⟩) k k, .int .i64 n])) (w.alloc (.cells cs 3)) l n := by
 refine ⟨.some ⟨w.heap.size, 0, Option.none⟩, k, by rw [hk], ?_, ?_⟩
 ·have := irow_new w l cs k hc hk hl
  rw [hk] at this ⊢
  exact this.mono fun b hb => by omega
 ·exact Keeps.to_below ((Keeps.refl _ w).alloc _)
theorem to_any (n : Int) (A : Option Addr) (k c : Nat) (w : World) : Calls Tryz.prog 225 #[.int .i64 n, .slice A k c] w fun r w' => r = .returned (.tuple #[.slice A k c, .int .i64 n]) ∧ w = w' := by
 go_enter Tryz.func225, Tryz.ntmps225
 go_wp2
 go_ret2
 exact ⟨rfl, rfl⟩
theorem timed_any (n : Int) (w : World) : Calls Tryz.prog 195 #[.int .i64 n] w fun r w' => r = .returned (.bool (decide (4 ≤ n ∧ n ≤ 8))) ∧ w = w' := by
 by_cases h1 : 4 ≤ n
 ·by_cases h2 : n ≤ 8
  ·have d1 : decide (4 ≤ n) = true := decide_eq_true h1
   have d2 : decide (n ≤ 8) = true := decide_eq_true h2
   have HR := xhd (show decide (4 ≤ n ∧ n ≤ 8) = true from decide_eq_true ⟨h1, h2⟩)
   clear h1 h2
   go_enter Tryz.func195, Tryz.ntmps195
   go_wp2
   go_ret
   exact ⟨by rw [HR.out]; rfl, rfl⟩
  ·have d1 : decide (4 ≤ n) = true := decide_eq_true h1
   have d2 : decide (n ≤ 8) = false := decide_eq_false h2
   have HR := xhd (show decide (4 ≤ n ∧ n ≤ 8) = false from decide_eq_false fun h => h2 h.2)
   clear h1 h2
   go_enter Tryz.func195, Tryz.ntmps195
   go_wp2
   go_ret
   exact ⟨by rw [HR.out]; rfl, rfl⟩
 ·have d1 : decide (4 ≤ n) = false := decide_eq_false h1
  have HR := xhd (show decide (4 ≤ n ∧ n ≤ 8) = false from decide_eq_false fun h => h1 h.1)
  clear h1
  go_enter Tryz.func195, Tryz.ntmps195
  go_wp2
  go_ret
  exact ⟨by rw [HR.out]; rfl, rfl⟩
theorem ordered_0_0 (w : World) : Calls Tryz.prog 226 #[.int .i64 0, .int .i64 0] w fun r w' => Ans w r w' [] 2 := by
 go_enter Tryz.func226, Tryz.ntmps226
 go_wp2_with fail
 refine (to_any _ _ _ _ _).mono ?_
 rintro r w1 ⟨rfl, rfl⟩
 go_wp2
 go_ret2
 exact Ans.none _ _
theorem ordered_0_1 (w : World) : Calls Tryz.prog 226 #[.int .i64 1, .int .i64 0] w fun r w' => Ans w r w' [4, 6] 6 := by
 go_enter Tryz.func226, Tryz.ntmps226
 go_wp2_with fail
 refine (to_any _ _ _ _ _).mono ?_
 rintro r w1 ⟨rfl, rfl⟩
 go_wp2
 go_ret2
 exact Ans.some _ _ _ _ _ rfl rfl (by decide)
theorem ordered_0_2 (w : World) : Calls Tryz.prog 226 #[.int .i64 2, .int .i64 0] w fun r w' => Ans w r w' [] 2 := by
 go_enter Tryz.func226, Tryz.ntmps226
 go_wp2_with fail
 refine (to_any _ _ _ _ _).mono ?_
 rintro r w1 ⟨rfl, rfl⟩
 go_wp2
 go_ret2
 exact Ans.none _ _
theorem ordered_0_3 (w : World) : Calls Tryz.prog 226 #[.int .i64 3, .int .i64 0] w fun r w' => Ans w r w' [] 3 := by
 go_enter Tryz.func226, Tryz.ntmps226
 go_wp2_with fail
 refine (to_any _ _ _ _ _).mono ?_
 rintro r w1 ⟨rfl, rfl⟩
 go_wp2
 go_ret2
 exact Ans.none _ _
theorem ordered_0_4 (w : World) : Calls Tryz.prog 226 #[.int .i64 4, .int .i64 0] w fun r w' => Ans w r w' [] 4 := by
 go_enter Tryz.func226, Tryz.ntmps226
 go_wp2_with fail
 refine (to_any _ _ _ _ _).mono ?_
 rintro r w1 ⟨rfl, rfl⟩
 go_wp2
 go_ret2
 exact Ans.none _ _
theorem ordered_0_5 (w : World) : Calls Tryz.prog 226 #[.int .i64 5, .int .i64 0] w fun r w' => Ans w r w' [] 5 := by
 go_enter Tryz.func226, Tryz.ntmps226
 go_wp2_with fail
 refine (to_any _ _ _ _ _).mono ?_
 rintro r w1 ⟨rfl, rfl⟩
 go_wp2
 go_ret2
 exact Ans.none _ _
theorem ordered_0_6 (w : World) : Calls Tryz.prog 226 #[.int .i64 6, .int .i64 0] w fun r w' => Ans w r w' [] 6 := by
 go_enter Tryz.func226, Tryz.ntmps226
 go_wp2_with fail
 refine (to_any _ _ _ _ _).mono ?_
 rintro r w1 ⟨rfl, rfl⟩
 go_wp2
 go_ret2
 exact Ans.none _ _
theorem ordered_0_7 (w : World) : Calls Tryz.prog 226 #[.int .i64 7, .int .i64 0] w fun r w' => Ans w r w' [] 7 := by
 go_enter Tryz.func226, Tryz.ntmps226
 go_wp2_with fail
 refine (to_any _ _ _ _ _).mono ?_
 rintro r w1 ⟨rfl, rfl⟩
 go_wp2
 go_ret2
 exact Ans.none _ _
theorem ordered_0_8 (w : World) : Calls Tryz.prog 226 #[.int .i64 8, .int .i64 0] w fun r w' => Ans w r w' [] 8 := by
 go_enter Tryz.func226, Tryz.ntmps226
 go_wp2_with fail
 refine (to_any _ _ _ _ _).mono ?_
 rintro r w1 ⟨rfl, rfl⟩
 go_wp2
 go_ret2
 exact Ans.none _ _
theorem ordered_0_9 (w : World) : Calls Tryz.prog 226 #[.int .i64 9, .int .i64 0] w fun r w' => Ans w r w' [] 9 := by
 go_enter Tryz.func226, Tryz.ntmps226
 go_wp2_with fail
 refine (to_any _ _ _ _ _).mono ?_
 rintro r w1 ⟨rfl, rfl⟩
 go_wp2
 go_ret2
 exact Ans.none _ _
theorem ordered_1_0 (w : World) : Calls Tryz.prog 226 #[.int .i64 0, .int .i64 1] w fun r w' => Ans w r w' [] 0 := by
 go_enter Tryz.func226, Tryz.ntmps226
 go_wp2_with fail
 refine (to_any _ _ _ _ _).mono ?_
 rintro r w1 ⟨rfl, rfl⟩
 go_wp2
 go_ret2
 exact Ans.none _ _
theorem ordered_1_1 (w : World) : Calls Tryz.prog 226 #[.int .i64 1, .int .i64 1] w fun r w' => Ans w r w' [] 1 := by
 go_enter Tryz.func226, Tryz.ntmps226
 go_wp2_with fail
 refine (to_any _ _ _ _ _).mono ?_
 rintro r w1 ⟨rfl, rfl⟩
 go_wp2
 go_ret2
 exact Ans.none _ _
theorem ordered_1_2 (w : World) : Calls Tryz.prog 226 #[.int .i64 2, .int .i64 1] w fun r w' => Ans w r w' [] 0 := by
 go_enter Tryz.func226, Tryz.ntmps226
 go_wp2_with fail
 refine (to_any _ _ _ _ _).mono ?_
 rintro r w1 ⟨rfl, rfl⟩
 go_wp2
 go_ret2
 exact Ans.none _ _
theorem ordered_1_3 (w : World) : Calls Tryz.prog 226 #[.int .i64 3, .int .i64 1] w fun r w' => Ans w r w' [2] 1 := by
 go_enter Tryz.func226, Tryz.ntmps226
 go_wp2_with fail
 refine (to_any _ _ _ _ _).mono ?_
 rintro r w1 ⟨rfl, rfl⟩
 go_wp2
 go_ret2
 exact Ans.some _ _ _ _ _ rfl rfl (by decide)
theorem ordered_1_4 (w : World) : Calls Tryz.prog 226 #[.int .i64 4, .int .i64 1] w fun r w' => Ans w r w' [] 0 := by
 go_enter Tryz.func226, Tryz.ntmps226
 go_wp2_with fail
 refine (to_any _ _ _ _ _).mono ?_
 rintro r w1 ⟨rfl, rfl⟩
 go_wp2
 go_ret2
 exact Ans.none _ _
theorem ordered_1_5 (w : World) : Calls Tryz.prog 226 #[.int .i64 5, .int .i64 1] w fun r w' => Ans w r w' [] 1 := by
 go_enter Tryz.func226, Tryz.ntmps226
 go_wp2_with fail
 refine (to_any _ _ _ _ _).mono ?_
 rintro r w1 ⟨rfl, rfl⟩
 go_wp2
 go_ret2
 exact Ans.none _ _
theorem ordered_1_6 (w : World) : Calls Tryz.prog 226 #[.int .i64 6, .int .i64 1] w fun r w' => Ans w r w' [] 1 := by
 go_enter Tryz.func226, Tryz.ntmps226
 go_wp2_with fail
 refine (to_any _ _ _ _ _).mono ?_
 rintro r w1 ⟨rfl, rfl⟩
 go_wp2
 go_ret2
 exact Ans.none _ _
theorem ordered_1_7 (w : World) : Calls Tryz.prog 226 #[.int .i64 7, .int .i64 1] w fun r w' => Ans w r w' [] 1 := by
 go_enter Tryz.func226, Tryz.ntmps226
 go_wp2_with fail
 refine (to_any _ _ _ _ _).mono ?_
 rintro r w1 ⟨rfl, rfl⟩
 go_wp2
 go_ret2
 exact Ans.none _ _
theorem ordered_1_8 (w : World) : Calls Tryz.prog 226 #[.int .i64 8, .int .i64 1] w fun r w' => Ans w r w' [] 1 := by
 go_enter Tryz.func226, Tryz.ntmps226
 go_wp2_with fail
 refine (to_any _ _ _ _ _).mono ?_
 rintro r w1 ⟨rfl, rfl⟩
 go_wp2
 go_ret2
 exact Ans.none _ _
theorem ordered_1_9 (w : World) : Calls Tryz.prog 226 #[.int .i64 9, .int .i64 1] w fun r w' => Ans w r w' [1] 1 := by
 go_enter Tryz.func226, Tryz.ntmps226
 go_wp2_with fail
 refine (to_any _ _ _ _ _).mono ?_
 rintro r w1 ⟨rfl, rfl⟩
 go_wp2
 go_ret2
 exact Ans.some _ _ _ _ _ rfl rfl (by decide)
theorem ordered_2_0 (w : World) : Calls Tryz.prog 226 #[.int .i64 0, .int .i64 2] w fun r w' => Ans w r w' [2] 1 := by
 go_enter Tryz.func226, Tryz.ntmps226
 go_wp2_with fail
 refine (to_any _ _ _ _ _).mono ?_
 rintro r w1 ⟨rfl, rfl⟩
 go_wp2
 go_ret2
 exact Ans.some _ _ _ _ _ rfl rfl (by decide)
theorem ordered_2_1 (w : World) : Calls Tryz.prog 226 #[.int .i64 1, .int .i64 2] w fun r w' => Ans w r w' [] 1 := by
 go_enter Tryz.func226, Tryz.ntmps226
 go_wp2_with fail
 refine (to_any _ _ _ _ _).mono ?_
 rintro r w1 ⟨rfl, rfl⟩
 go_wp2
 go_ret2
 exact Ans.none _ _
theorem ordered_2_2 (w : World) : Calls Tryz.prog 226 #[.int .i64 2, .int .i64 2] w fun r w' => Ans w r w' [4, 6] 6 := by
 go_enter Tryz.func226, Tryz.ntmps226
 go_wp2_with fail
 refine (to_any _ _ _ _ _).mono ?_
 rintro r w1 ⟨rfl, rfl⟩
 go_wp2
 go_ret2
 exact Ans.some _ _ _ _ _ rfl rfl (by decide)
theorem ordered_2_3 (w : World) : Calls Tryz.prog 226 #[.int .i64 3, .int .i64 2] w fun r w' => Ans w r w' [] 3 := by
 go_enter Tryz.func226, Tryz.ntmps226
 go_wp2_with fail
 refine (to_any _ _ _ _ _).mono ?_
 rintro r w1 ⟨rfl, rfl⟩
 go_wp2
 go_ret2
 exact Ans.none _ _
theorem ordered_2_4 (w : World) : Calls Tryz.prog 226 #[.int .i64 4, .int .i64 2] w fun r w' => Ans w r w' [] 5 := by
 go_enter Tryz.func226, Tryz.ntmps226
 go_wp2_with fail
 refine (to_any _ _ _ _ _).mono ?_
 rintro r w1 ⟨rfl, rfl⟩
 go_wp2
 go_ret2
 exact Ans.none _ _
theorem ordered_2_5 (w : World) : Calls Tryz.prog 226 #[.int .i64 5, .int .i64 2] w fun r w' => Ans w r w' [] 5 := by
 go_enter Tryz.func226, Tryz.ntmps226
 go_wp2_with fail
 refine (to_any _ _ _ _ _).mono ?_
 rintro r w1 ⟨rfl, rfl⟩
 go_wp2
 go_ret2
 exact Ans.none _ _
theorem ordered_2_6 (w : World) : Calls Tryz.prog 226 #[.int .i64 6, .int .i64 2] w fun r w' => Ans w r w' [] 6 := by
 go_enter Tryz.func226, Tryz.ntmps226
 go_wp2_with fail
 refine (to_any _ _ _ _ _).mono ?_
 rintro r w1 ⟨rfl, rfl⟩
 go_wp2
 go_ret2
 exact Ans.none _ _
theorem ordered_2_7 (w : World) : Calls Tryz.prog 226 #[.int .i64 7, .int .i64 2] w fun r w' => Ans w r w' [] 7 := by
 go_enter Tryz.func226, Tryz.ntmps226
 go_wp2_with fail
 refine (to_any _ _ _ _ _).mono ?_
 rintro r w1 ⟨rfl, rfl⟩
 go_wp2
 go_ret2
 exact Ans.none _ _
theorem ordered_2_8 (w : World) : Calls Tryz.prog 226 #[.int .i64 8, .int .i64 2] w fun r w' => Ans w r w' [] 8 := by
 go_enter Tryz.func226, Tryz.ntmps226
 go_wp2_with fail
 refine (to_any _ _ _ _ _).mono ?_
 rintro r w1 ⟨rfl, rfl⟩
 go_wp2
 go_ret2
 exact Ans.none _ _
theorem ordered_2_9 (w : World) : Calls Tryz.prog 226 #[.int .i64 9, .int .i64 2] w fun r w' => Ans w r w' [] 9 := by
 go_enter Tryz.func226, Tryz.ntmps226
 go_wp2_with fail
 refine (to_any _ _ _ _ _).mono ?_
 rintro r w1 ⟨rfl, rfl⟩
 go_wp2
 go_ret2
 exact Ans.none _ _
theorem ordered_3_0 (w : World) : Calls Tryz.prog 226 #[.int .i64 0, .int .i64 3] w fun r w' => Ans w r w' [] 0 := by
 go_enter Tryz.func226, Tryz.ntmps226
 go_wp2_with fail
 refine (to_any _ _ _ _ _).mono ?_
 rintro r w1 ⟨rfl, rfl⟩
 go_wp2
 go_ret2
 exact Ans.none _ _
theorem ordered_3_1 (w : World) : Calls Tryz.prog 226 #[.int .i64 1, .int .i64 3] w fun r w' => Ans w r w' [3] 0 := by
 go_enter Tryz.func226, Tryz.ntmps226
 go_wp2_with fail
 refine (to_any _ _ _ _ _).mono ?_
 rintro r w1 ⟨rfl, rfl⟩
 go_wp2
 go_ret2
 exact Ans.some _ _ _ _ _ rfl rfl (by decide)
theorem ordered_3_2 (w : World) : Calls Tryz.prog 226 #[.int .i64 2, .int .i64 3] w fun r w' => Ans w r w' [] 2 := by
 go_enter Tryz.func226, Tryz.ntmps226
 go_wp2_with fail
 refine (to_any _ _ _ _ _).mono ?_
 rintro r w1 ⟨rfl, rfl⟩
 go_wp2
 go_ret2
 exact Ans.none _ _
theorem ordered_3_3 (w : World) : Calls Tryz.prog 226 #[.int .i64 3, .int .i64 3] w fun r w' => Ans w r w' [] 2 := by
 go_enter Tryz.func226, Tryz.ntmps226
 go_wp2_with fail
 refine (to_any _ _ _ _ _).mono ?_
 rintro r w1 ⟨rfl, rfl⟩
 go_wp2
 go_ret2
 exact Ans.none _ _
theorem ordered_3_4 (w : World) : Calls Tryz.prog 226 #[.int .i64 4, .int .i64 3] w fun r w' => Ans w r w' [] 4 := by
 go_enter Tryz.func226, Tryz.ntmps226
 go_wp2_with fail
 refine (to_any _ _ _ _ _).mono ?_
 rintro r w1 ⟨rfl, rfl⟩
 go_wp2
 go_ret2
 exact Ans.none _ _
theorem ordered_3_5 (w : World) : Calls Tryz.prog 226 #[.int .i64 5, .int .i64 3] w fun r w' => Ans w r w' [] 4 := by
 go_enter Tryz.func226, Tryz.ntmps226
 go_wp2_with fail
 refine (to_any _ _ _ _ _).mono ?_
 rintro r w1 ⟨rfl, rfl⟩
 go_wp2
 go_ret2
 exact Ans.none _ _
theorem ordered_3_6 (w : World) : Calls Tryz.prog 226 #[.int .i64 6, .int .i64 3] w fun r w' => Ans w r w' [4, 9] 4 := by
 go_enter Tryz.func226, Tryz.ntmps226
 go_wp2_with fail
 refine (to_any _ _ _ _ _).mono ?_
 rintro r w1 ⟨rfl, rfl⟩
 go_wp2
 go_ret2
 exact Ans.some _ _ _ _ _ rfl rfl (by decide)
theorem ordered_3_7 (w : World) : Calls Tryz.prog 226 #[.int .i64 7, .int .i64 3] w fun r w' => Ans w r w' [4, 9] 4 := by
 go_enter Tryz.func226, Tryz.ntmps226
 go_wp2_with fail
 refine (to_any _ _ _ _ _).mono ?_
 rintro r w1 ⟨rfl, rfl⟩
 go_wp2
 go_ret2
 exact Ans.some _ _ _ _ _ rfl rfl (by decide)
theorem ordered_3_8 (w : World) : Calls Tryz.prog 226 #[.int .i64 8, .int .i64 3] w fun r w' => Ans w r w' [4, 9] 4 := by
 go_enter Tryz.func226, Tryz.ntmps226
 go_wp2_with fail
 refine (to_any _ _ _ _ _).mono ?_
 rintro r w1 ⟨rfl, rfl⟩
 go_wp2
 go_ret2
 exact Ans.some _ _ _ _ _ rfl rfl (by decide)
theorem ordered_3_9 (w : World) : Calls Tryz.prog 226 #[.int .i64 9, .int .i64 3] w fun r w' => Ans w r w' [1, 4, 9] 4 := by
 go_enter Tryz.func226, Tryz.ntmps226
 go_wp2_with fail
 refine (to_any _ _ _ _ _).mono ?_
 rintro r w1 ⟨rfl, rfl⟩
 go_wp2
 go_ret2
 exact Ans.some _ _ _ _ _ rfl rfl (by decide)
theorem ordered_e0 (s : Nat) (w : World) (h1 : 0 ≤ s) (h2 : s ≤ 9) : Calls Tryz.prog 226 #[.int .i64 s, .int .i64 0] w fun r w' => Ans w r w' (Pure.fsmAt s 0).1 ((Pure.fsmAt s 0).2 : Nat) := by
 match s, h1, h2 with
 | 0, _, _ => exact ordered_0_0 w
 | 1, _, _ => exact ordered_0_1 w
 | 2, _, _ => exact ordered_0_2 w
 | 3, _, _ => exact ordered_0_3 w
 | 4, _, _ => exact ordered_0_4 w
 | 5, _, _ => exact ordered_0_5 w
 | 6, _, _ => exact ordered_0_6 w
 | 7, _, _ => exact ordered_0_7 w
 | 8, _, _ => exact ordered_0_8 w
 | 9, _, _ => exact ordered_0_9 w
 | _ + 10, _, h => exact absurd h (by omega)
theorem ordered_e1 (s : Nat) (w : World) (h1 : 0 ≤ s) (h2 : s ≤ 9) : Calls Tryz.prog 226 #[.int .i64 s, .int .i64 1] w fun r w' => Ans w r w' (Pure.fsmAt s 1).1 ((Pure.fsmAt s 1).2 : Nat) := by
 match s, h1, h2 with
 | 0, _, _ => exact ordered_1_0 w
 | 1, _, _ => exact ordered_1_1 w
 | 2, _, _ => exact ordered_1_2 w
 | 3, _, _ => exact ordered_1_3 w
 | 4, _, _ => exact ordered_1_4 w
 | 5, _, _ => exact ordered_1_5 w
 | 6, _, _ => exact ordered_1_6 w
 | 7, _, _ => exact ordered_1_7 w
 | 8, _, _ => exact ordered_1_8 w
 | 9, _, _ => exact ordered_1_9 w
 | _ + 10, _, h => exact absurd h (by omega)
theorem ordered_e2 (s : Nat) (w : World) (h1 : 0 ≤ s) (h2 : s ≤ 9) : Calls Tryz.prog 226 #[.int .i64 s, .int .i64 2] w fun r w' => Ans w r w' (Pure.fsmAt s 2).1 ((Pure.fsmAt s 2).2 : Nat) := by
 match s, h1, h2 with
 | 0, _, _ => exact ordered_2_0 w
 | 1, _, _ => exact ordered_2_1 w
 | 2, _, _ => exact ordered_2_2 w
 | 3, _, _ => exact ordered_2_3 w
 | 4, _, _ => exact ordered_2_4 w
 | 5, _, _ => exact ordered_2_5 w
 | 6, _, _ => exact ordered_2_6 w
 | 7, _, _ => exact ordered_2_7 w
 | 8, _, _ => exact ordered_2_8 w
 | 9, _, _ => exact ordered_2_9 w
 | _ + 10, _, h => exact absurd h (by omega)
theorem ordered_e3 (s : Nat) (w : World) (h1 : 0 ≤ s) (h2 : s ≤ 9) : Calls Tryz.prog 226 #[.int .i64 s, .int .i64 3] w fun r w' => Ans w r w' (Pure.fsmAt s 3).1 ((Pure.fsmAt s 3).2 : Nat) := by
 match s, h1, h2 with
 | 0, _, _ => exact ordered_3_0 w
 | 1, _, _ => exact ordered_3_1 w
 | 2, _, _ => exact ordered_3_2 w
 | 3, _, _ => exact ordered_3_3 w
 | 4, _, _ => exact ordered_3_4 w
 | 5, _, _ => exact ordered_3_5 w
 | 6, _, _ => exact ordered_3_6 w
 | 7, _, _ => exact ordered_3_7 w
 | 8, _, _ => exact ordered_3_8 w
 | 9, _, _ => exact ordered_3_9 w
 | _ + 10, _, h => exact absurd h (by omega)
end Go.Proofs.YtmgicbckgpdkcaaGreatDoor
