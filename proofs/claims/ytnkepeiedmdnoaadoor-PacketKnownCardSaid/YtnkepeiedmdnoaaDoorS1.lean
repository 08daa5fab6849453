/- What chapter 11 says of packets and options. Nothing of the program. -/
import Derived.Test.YtnkepeiedmdnoaaDoorC3
namespace Go.Proofs.YtnkepeiedmdnoaaDoor
set_option maxRecDepth 100000
set_option maxHeartbeats 4000000
open _root_.Go.Lib renaming hid → xhd
open List renaming setIfInBounds_toArray → xqA, getElem_toArray → xqB, getElem_cons_succ → xqC, getElem_cons_zero → xqD, set_cons_succ → xqE, set_cons_zero → xqF
namespace Pure
theorem y0n : ∀ (f g : Nat) (b : List UInt8) (acc : List Opt), b.length ≤ f → b.length ≤ g → y0f f b acc = y0f g b acc
 | 0, 0, _, _, _, _ => rfl
 | 0, g + 1, b, acc, hf, _ => by
  have : b = [] := List.eq_nil_of_length_eq_zero (by omega)
  subst this; simp [y0f]
 | f + 1, 0, b, acc, _, hg => by
  have : b = [] := List.eq_nil_of_length_eq_zero (by omega)
  subst this; simp [y0f]
 | f + 1, g + 1, b, acc, hf, hg => by
  unfold y0f
  split
  ·rfl
  ·split
   ·rfl
   ·split
    ·rfl
    ·rename_i h
     exact y0n f g _ _ (by rw [List.length_drop]; omega) (by rw [List.length_drop]; omega)
theorem splitFrom_nil (acc : List Opt) : splitFrom [] acc = (0, acc) := rfl
theorem y0d {b : List UInt8} (acc : List Opt) (hb : b ≠ []) : splitFrom b acc =
  if acc.length = 32 then (3, []) else if b.length < 2 ∨ (b.getD 1 0).toNat < 2 ∨ b.length < (b.getD 1 0).toNat then (4, [])
  else splitFrom (b.drop (b.getD 1 0).toNat) (acc ++ [(((b.getD 0 0).toNat : Int), (b.drop 2).take ((b.getD 1 0).toNat - 2))]) := by
 have h0 : 0 < b.length := List.length_pos_iff.2 hb
 obtain ⟨n, hn⟩ : ∃ n, b.length = n + 1 := ⟨b.length - 1, by omega⟩
 conv => lhs; unfold splitFrom; rw [hn]; unfold y0f
 rw [if_neg hb]
 split
 ·rfl
 ·split
  ·rfl
  ·rename_i h
   exact y0n _ _ _ _ (by rw [List.length_drop]; omega) (Nat.le_refl _)
theorem splitFrom_full {b : List UInt8} {acc : List Opt} (hb : b ≠ []) (h : acc.length = 32) : splitFrom b acc = (3, []) := by rw [y0d acc hb, if_pos h]
theorem splitFrom_bad {b : List UInt8} {acc : List Opt} (hb : b ≠ []) (h : acc.length ≠ 32) (h2 : b.length < 2 ∨ (b.getD 1 0).toNat < 2 ∨ b.length < (b.getD 1 0).toNat) : splitFrom b acc = (4, []) := by rw [y0d acc hb, if_neg h, if_pos h2]
theorem splitFrom_step {b : List UInt8} {acc : List Opt} (hb : b ≠ []) (h : acc.length ≠ 32) (h2 : ¬ (b.length < 2 ∨ (b.getD 1 0).toNat < 2 ∨ b.length < (b.getD 1 0).toNat)) :
  splitFrom b acc = splitFrom (b.drop (b.getD 1 0).toNat) (acc ++ [(((b.getD 0 0).toNat : Int), (b.drop 2).take ((b.getD 1 0).toNat - 2))]) := by rw [y0d acc hb, if_neg h, if_neg h2]
end Pure
open Go.RowKit
abbrev y02 (ps : List (Value × Pure.Opt)) : List Value := ps.flatMap fun p => [.int .i64 p.2.1, p.1]
theorem y0v (ps : List (Value × Pure.Opt)) (k : Nat) (p : Value × Pure.Opt) (h : ps[k]? = some p) : (y02 ps)[2 * k]? = some (.int .i64 p.2.1) ∧ (y02 ps)[2 * k + 1]? = some p.1 := by
 induction ps generalizing k with
 | nil => simp at h
 | cons q ps ih =>
  rcases k with _ | k
  ·simp at h
   subst h
   exact ⟨rfl, rfl⟩
  ·have := ih k (by simpa using h)
   rw [y02, List.flatMap_cons]
   rw [List.getElem?_append_right (by simp; omega), List.getElem?_append_right (by simp; omega)]
   simpa [Nat.mul_add, Nat.add_assoc] using this
structure ORow (w : World) (F : Nat → Prop) (x : Value) (ps : List (Value × Pure.Opt)) : Prop where
 out : Row w F 2 x ps.length (y02 ps)
 rows : ∀ p ∈ ps, Row w F 1 p.1 p.2.2.length (u8s p.2.2)
theorem ORow.keeps {S F : Nat → Prop} {w w' : World} {x : Value} {ps : List (Value × Pure.Opt)} (h : ORow w F x ps) (k : Keeps S w w') (hs : ∀ b, F b → ¬ S b) : ORow w' F x ps :=
 ⟨h.out.keeps k hs, fun p hp => (h.rows p hp).keeps k hs⟩
theorem ORow.mono {F G : Nat → Prop} {w : World} {x : Value} {ps : List (Value × Pure.Opt)} (h : ORow w F x ps) (hG : ∀ b, F b → G b) : ORow w G x ps :=
 ⟨h.out.mono hG, fun p hp => (h.rows p hp).mono hG⟩
theorem ORow.nil (w : World) (F : Nat → Prop) : ORow w F (.slice none 0 0) [] := ⟨Row.nil _ _ _, by simp⟩
theorem ORow.form {w : World} {F : Nat → Prop} {x : Value} {ps : List (Value × Pure.Opt)} (h : ORow w F x ps) : ∃ A c, x = .slice A ps.length c ∧ ps.length ≤ c := by
 obtain ⟨_, _, A, c, rfl, hc, _⟩ := h.out
 exact ⟨A, c, rfl, hc⟩
theorem ORow.pick {w : World} {F : Nat → Prop} {X : Option Addr} {n cx : Nat} {ps : List (Value × Pure.Opt)} (h : ORow w F (.slice X n cx) ps) (k : Nat) (hk : k < ps.length) :
  ∃ p o A c t bs, X = some ⟨p, o, none⟩ ∧ F p ∧ w.cell? ⟨p, o + k * 2, none⟩ = some (.int .i64 t) ∧ w.cell? ⟨p, o + k * 2 + 1, none⟩ = some (.slice A bs.length c) ∧ Row w F 1 (.slice A bs.length c) bs.length (u8s bs) ∧ ps[k]? = some (.slice A bs.length c, t, bs) := by
 obtain ⟨_, _, A', c', e, _, _, hh⟩ := h.out
 obtain ⟨p, o, rfl, hF, hc⟩ := hh (by omega)
 injection e with e1 _ _
 have hget := List.getElem?_eq_getElem hk
 have hr := h.rows ps[k] (List.getElem_mem hk)
 obtain ⟨A, c, hform, _⟩ := hr.form
 obtain ⟨o1, o2⟩ := y0v ps k _ hget
 have c1 := hc _ _ o1
 have c2 := hc _ _ o2
 rw [hform] at c2 hr
 rw [← Nat.add_assoc] at c2
 rw [Nat.mul_comm 2 k] at c1 c2
 refine ⟨p, o, A, c, ps[k].2.1, ps[k].2.2, e1, hF, c1, c2, hr, ?_⟩
 rw [hget, ← hform]
abbrev optV (p : Value × Pure.Opt) : Value := .agg #[.int .i64 p.2.1, p.1]
abbrev y00 (ps : List (Value × Pure.Opt)) : List Pure.Opt := ps.map Prod.snd
theorem y17 : (Tryd.prog.info? 36).map (fun i => (i.zero, i.size, i.bytes)) = some (some (.agg #[.int .i64 0, .slice none 0 0]), 2, 32) := by kernel_rfl
theorem y0l (ps : List (Value × Pure.Opt)) (h : ∀ p ∈ ps, p.1.oneCell' = true) : ∀ u ∈ y02 ps, u.oneCell' = true := by
 intro u hu
 obtain ⟨p, hp, hu⟩ := List.mem_flatMap.1 hu
 simp at hu
 rcases hu with rfl | rfl
 ·rfl
 ·exact h p hp
section
variable {w0 wr : World}
theorem y2u {F G : Nat → Prop} {x y : Value} {a b : List UInt8} {n m : Nat} (B : Below w0.heap.size w0 wr) (hx : Row wr F 1 x n (u8s a)) (hy : Row wr G 1 y m (u8s b)) (ha : a.length = n) (hb : b.length = m) :
  Calls Tryd.prog 13 #[x, y] wr fun e w' => e = .returned (.bool (decide (a = b))) ∧ Keeps y03 wr w' ∧ Below w0.heap.size w0 w' := by
 subst ha hb
 exact sameL B hx hy
theorem y2v {F G : Nat → Prop} {x y : Value} {a b : List UInt8} {n m : Nat} (B : Below w0.heap.size w0 wr) (hx : Row wr F 1 x n (u8s a)) (hy : Row wr G 1 y m (u8s b)) (ha : a.length = n) (hab : a = b) :
  Calls Tryd.prog 13 #[x, y] wr fun e w' => e = .returned (.bool true) ∧ Keeps y03 wr w' ∧ Below w0.heap.size w0 w' := by
 have hm : b.length = m := by have := hy.1; simpa using this
 exact (y2u B hx hy ha hm).mono fun e w' ⟨he, h⟩ => ⟨by rw [he, decide_eq_true hab], h⟩
end
theorem y08 {w w' : World} {base n : Nat} {u : Value} {l : List UInt8} (h : w.ownsRow base 5 1 u n (u8s l)) (k : Keeps y03 w w') : w'.ownsRow base 5 1 u n (u8s l) := y05 h k (fun _ _ h => h)
def y1u : Prop := ∀ (F : Nat → Prop) (x : Value) (bs : List UInt8) (w : World), y0e w → (∀ b, F b → b < w.heap.size) → Row w F 1 x bs.length (u8s bs) →
 Calls Tryd.prog 11 #[x] w fun e w' => ∃ u ps, e = .returned (.tuple #[u, .int .i64 (((Pure.split bs).1 : Nat) : Int)]) ∧ y00 ps = (Pure.split bs).2 ∧ ORow w' (fun b => w.heap.size ≤ b) u ps ∧ Below w.heap.size w w'
theorem ORow.one {w : World} {F : Nat → Prop} {x : Value} {ps : List (Value × Pure.Opt)} (h : ORow w F x ps) : ∀ u ∈ y02 ps, u.oneCell' = true :=
 y0l ps (fun p hp => (h.rows p hp).one)
theorem Row.strong2 {w : World} {F : Nat → Prop} {v : Value} {n : Nat} {xs : List Value} (h : Row w F 2 v n xs) : Row w (fun b => F b ∧ b < w.heap.size) 2 v n xs := by
 obtain ⟨h1, h0, A, c, h2, h3, h4, h5⟩ := h
 refine ⟨h1, h0, A, c, h2, h3, h4, fun hn => ?_⟩
 obtain ⟨b, off, e, f, g⟩ := h5 hn
 refine ⟨b, off, e, ⟨f, ?_⟩, g⟩
 exact y0c (g 0 xs[0] (List.getElem?_eq_getElem (by omega)))
theorem ORow.strong {w : World} {F : Nat → Prop} {x : Value} {ps : List (Value × Pure.Opt)} (h : ORow w F x ps) : ORow w (fun b => F b ∧ b < w.heap.size) x ps :=
 ⟨Row.strong2 h.out, fun p hp => Row.strong (h.rows p hp)⟩
open Go.RowKit Go.Extern.Stop Go.Stop Go.Extern
theorem y1a (b k : Nat) (w : World) (h : w.cell? ⟨b, 1, none⟩ = some (.int .i64 k)) :
  Calls Tryd.prog 69 #[.pointer (some ⟨b, 0, none⟩)] w fun e w' => e = .returned (.iface 24 (.int .i64 k)) ∧ w = w' := by
 go_enter Tryd.func69, Tryd.ntmps69
 go_wp2
 go_ret
 exact ⟨rfl, rfl⟩
theorem y1l (v : Value) (w : World) : (ReflectliteType.typeOf #[.iface 24 v]).run Tryd.prog w = .ok (.iface 99 (.agg #[.pointer (some ⟨hB, 24, none⟩)])) w := by kernel_rfl
theorem y2g (w : World) : ((ReflectliteType.method fun t => do Go.Extern.Rtype.noPackHeld "Comparable" t; (fun a => Value.bool a.comparable) <$> typeInfo t) #[.agg #[.pointer (some ⟨hB, 24, none⟩)]]).run Tryd.prog w = .ok (.bool true) w := by kernel_rfl
theorem y21 (n : Nat) (v : Value) (w : World) : (Go.method (n + 1) 99 (.agg #[v]) "Comparable").run Tryd.prog w = .ok (75, .agg #[v]) w := by kernel_rfl
theorem y18 (n : Nat) (v : Value) (w : World) : (Go.method (n + 1) 73 v "Unwrap").run Tryd.prog w = .ok (69, v) w := by kernel_rfl
theorem y23 (v : Value) (xT : TypeId) (w : World) : (Instr.typeAssert (.iface 73 v) xT 111 true).run Tryd.prog w = .ok (.tuple #[.nilIface, .bool false]) w := run_typeAssert_lacksB Tryd.underlying111 (by kernel_rfl) (by kernel_rfl) v xT w
theorem y2h (v : Value) (xT : TypeId) (w : World) : (Instr.typeAssert (.iface 73 v) xT 106 true).run Tryd.prog w = .ok (.tuple #[.iface 73 v, .bool true]) w := run_typeAssert_hasB Tryd.underlying106 (by kernel_rfl) v xT w
theorem y22 (v : Value) (xT : TypeId) (w : World) : (Instr.typeAssert (.iface 24 v) xT 111 true).run Tryd.prog w = .ok (.tuple #[.nilIface, .bool false]) w := run_typeAssert_lacksB Tryd.underlying111 (by kernel_rfl) (by kernel_rfl) v xT w
theorem y24 (v : Value) (xT : TypeId) (w : World) : (Instr.typeAssert (.iface 24 v) xT 106 true).run Tryd.prog w = .ok (.tuple #[.nilIface, .bool false]) w := run_typeAssert_lacksB Tryd.underlying106 (by kernel_rfl) (by kernel_rfl) v xT w
theorem y1k (v : Value) (xT : TypeId) (w : World) : (Instr.typeAssert (.iface 24 v) xT 108 true).run Tryd.prog w = .ok (.tuple #[.nilIface, .bool false]) w := run_typeAssert_lacksB Tryd.underlying108 (by kernel_rfl) (by kernel_rfl) v xT w
theorem y2o (n : Int) (w : World) : Calls Tryd.prog 39 #[.nilIface, .iface 24 (.int .i64 n)] w fun e w' => e = .returned (.bool false) ∧ w = w' := by
 have hn := run_eql_iface_nil_left (P := Tryd.prog) w 24 (.int .i64 n) Tryd.underlying59
 go_enter Tryd.func39, Tryd.ntmps39
 go_wp2
 go_ret
 exact ⟨rfl, rfl⟩
theorem y20 (b k : Nat) (n : Nat) (w : World) (h : w.cell? ⟨b, 1, none⟩ = some (.int .i64 k)) :
  Calls Tryd.prog 47 #[.iface 73 (.pointer (some ⟨b, 0, none⟩)), .iface 24 (.int .i64 n), .bool true] w fun e w' => e = .returned (.bool (decide (k = n))) ∧ w = w' := by
 have k4 := y18
 have k5 := y23
 have k6 := y2h
 have k7 := y22
 have k8 := y24
 have k9 := y1k
 have hty := run_eql_iface_types (P := Tryd.prog) 73 24 (.pointer (some ⟨b, 0, none⟩)) (.int .i64 n) Tryd.underlying59 (by decide) w
 have heq := Lib.run_eql_iface_int (P := Tryd.prog) w (t := 59) (tx := 24) (k := .i64) (q := .i64) (k : Int) (n : Int) Tryd.underlying59 (by kernel_rfl) Tryd.underlying24
 have HU := xhd (y1a b k w h)
 clear h
 by_cases hkn : k = n
 ·rw [show ((k : Int) == (n : Int)) = true by rw [beq_iff_eq]; omega] at heq
  have HD := xhd (decide_eq_true hkn)
  clear hkn
  go_enter Tryd.func47, Tryd.ntmps47
  go_wp2_with fail
  refine wp_loop_rounds 2 ?_
  rw [rounds_succ]
  go_wp2_with fail
  refine HU.out.mono ?_
  rintro e w' ⟨rfl, rfl⟩
  go_wp2_with fail
  rw [rounds_succ]
  go_wp2_with fail
  go_ret
  exact ⟨by rw [HD.out]; rfl, rfl⟩
 ·rw [show ((k : Int) == (n : Int)) = false by rw [beq_eq_false_iff_ne]; omega] at heq
  have HD := xhd (decide_eq_false hkn)
  clear hkn
  go_enter Tryd.func47, Tryd.ntmps47
  go_wp2_with fail
  refine wp_loop_rounds 2 ?_
  rw [rounds_succ]
  go_wp2_with fail
  refine HU.out.mono ?_
  rintro e w' ⟨rfl, rfl⟩
  go_wp2_with fail
  rw [rounds_succ]
  go_wp2_with fail
  go_ret
  exact ⟨by rw [HD.out]; rfl, rfl⟩
theorem y1z (b k : Nat) (n : Nat) (w : World) (h : w.cell? ⟨b, 1, none⟩ = some (.int .i64 k)) :
  Calls Tryd.prog 39 #[.iface 73 (.pointer (some ⟨b, 0, none⟩)), .iface 24 (.int .i64 n)] w fun e w' => e = .returned (.bool (decide (k = n))) ∧ w = w' := by
 have h1 := @run_callFunc_extern Tryd.prog 46 _ ReflectliteType.typeOf Tryd.func46 (by kernel_rfl) (by kernel_rfl) (by kernel_rfl) (by kernel_rfl)
 have h2 := @run_callFunc_extern Tryd.prog 75 _ (ReflectliteType.method fun t => do Go.Extern.Rtype.noPackHeld "Comparable" t; pure (.bool (← typeInfo t).comparable)) Tryd.func75 (by kernel_rfl) (by kernel_rfl) (by kernel_rfl) (by kernel_rfl)
 have k1 := y1l
 have k2 := y2g
 have k3 := y21
 have HI := xhd (y20 b k n w h)
 obtain ⟨r, hr⟩ : ∃ r, r = decide (k = n) := ⟨_, rfl⟩
 rw [← hr] at HI ⊢
 clear h hr
 go_enter Tryd.func39, Tryd.ntmps39
 go_wp2_with fail
 refine HI.out.mono ?_
 rintro e w' ⟨rfl, rfl⟩
 go_wp2
 go_ret
 exact ⟨rfl, rfl⟩
theorem y1j (v : Value) (k n : Nat) (w : World) (h : y0s w v k) (hn : n ≠ 0) : Calls Tryd.prog 39 #[v, .iface 24 (.int .i64 n)] w fun e w' => e = .returned (.bool (decide (k = n))) ∧ w = w' := by
 rcases h with ⟨rfl, rfl⟩ | ⟨h1, b, rfl, h3⟩
 ·rw [decide_eq_false (fun h => hn h.symm)]
  exact y2o n w
 ·exact y1z b k n w h3
namespace Pure
theorem told_option (b : List UInt8) (h : 2 ≤ b.length) : told 2 1 b = (b.getD 1 0).toNat := by
 match b, h with
 | a :: b :: l, _ => simp [told, num]
theorem next_option {b : List UInt8} : nextErr 2 1 b = 0 ↔ ¬ (b.length < 2 ∨ (b.getD 1 0).toNat < 2 ∨ b.length < (b.getD 1 0).toNat) := by
 unfold nextErr
 by_cases h1 : b.length < 2
 ·rw [if_pos h1]
  exact ⟨fun h => by omega, fun h => absurd (Or.inl h1) h⟩
 ·rw [if_neg h1, told_option b (by omega)]
  generalize (b.getD 1 0).toNat = n
  split
  ·exact ⟨fun h => by omega, fun h => by omega⟩
  ·split
   ·exact ⟨fun h => by omega, fun h => by omega⟩
   ·exact ⟨fun h => by omega, fun h => rfl⟩
theorem next_ways (size len : Nat) (b : List UInt8) : nextErr size len b = 0 ∨ nextErr size len b = 2 ∨ nextErr size len b = 4 := by
 unfold nextErr
 split
 ·exact .inr (.inl rfl)
 ·split
  ·exact .inr (.inr rfl)
  ·split
   ·exact .inr (.inl rfl)
   ·exact .inl rfl
end Pure
theorem y11 : (Tryd.prog.info? 36).map (·.size) = some 2 := by kernel_rfl
theorem y19 (F : Nat → Prop) (g : Nat) (bs : List UInt8) (w : World) (hrd : Rd w F g bs) (hF : ∀ b, F b → b ≠ g) (h0 : Pure.nextErr 2 1 bs ≠ 0) :
  Calls Tryd.prog 35 #[.pointer (some ⟨g, 0, none⟩)] w fun e w' => ∃ b, e = .returned (.tuple #[optV (.slice none 0 0, (0, [])), .iface 73 (.pointer (some ⟨b, 0, none⟩))]) ∧ y0s w' (.iface 73 (.pointer (some ⟨b, 0, none⟩))) 4 ∧ Keeps (only g) w w' := by
 have hgl : g < w.heap.size := by obtain ⟨v, hb, _⟩ := hrd; exact hb.lt
 have HI := xhd y11
 obtain ⟨p, hp⟩ : ∃ p, p = w.heap.size := ⟨_, rfl⟩
 go_enter Tryd.func35, Tryd.ntmps35
 go_upto_region 1 with fail
 rw [← hp]
 generalize hw1 : w.alloc _ = w1
 have hB : Blk w1 p 36 #[.int .i64 0, .slice none 0 0] := by rw [← hw1, hp]; exact Blk.new w _ _
 have HK := xhd (show Keeps y03 w w1 by rw [← hw1]; exact (Keeps.refl _ w).alloc _)
 have HG := xhd hp
 have HN := xhd (y1d F g 2 1 bs w1 (hrd.keeps HK.out (fun h => h) (fun _ _ h => h)) hF (by omega) (by omega) (by omega) (by omega))
 have HB := xhd hB
 clear hw1 hp hB hrd hF
 go_wp2_with fail
 refine HN.out.mono ?_
 rintro e w2 ⟨a, b, u, rfl, hu, hk2, hok⟩
 have hgp : p ≠ g := by have := HG.out; omega
 have HB2 := xhd (HB.out.keeps hk2 (fun h => hgp h))
 have HK2 := xhd ((HK.out.mono (T := only g) (fun i h => h.elim)).trans hk2)
 have HIs := xhd (y1j u (Pure.nextErr 2 1 bs) 2 w2 hu (by omega))
 obtain ⟨fb, rfl⟩ := y16 hu h0
 rcases (Pure.next_ways 2 1 bs).resolve_left h0 with h2 | h4
 ·rw [h2] at HIs
  have HIs := xhd (show _ from HIs.out)
  rw [show decide (2 = 2) = true from rfl] at HIs
  have HO := xhd (fun s => y1w s 4 w2 (by omega))
  clear hu hok hk2 HN
  go_wp2_with fail
  refine HIs.out.mono ?_
  rintro e w3 ⟨rfl, rfl⟩
  go_wp2_with fail
  refine (HO.out _).mono ?_
  rintro e w3 ⟨u, rfl, hu, hb3⟩
  have hk3 := Keeps.new hb3
  obtain ⟨fb, rfl⟩ := y16 hu (by omega)
  have HU := xhd hu
  have HB3 := xhd (HB2.out.keeps hk3 (fun h => h))
  have HK3 := xhd (HK2.out.trans (hk3.mono (T := only g) (fun i h => h.elim)))
  clear hu hk3 hb3 HO
  have z0 : w3.cell? ⟨p, 0, none⟩ = some (.int .i64 0) := by rw [HB3.out.cell]; rfl
  have z1 : w3.cell? ⟨p, 1, none⟩ = some (.slice none 0 0) := by rw [HB3.out.cell]; rfl
  have y0 := HB3.out.frozen 0
  have y1 := HB3.out.frozen 1
  have HZS := xhd ((HB3.out.set 0 (.int .i64 0)).set 1 (.slice none 0 0))
  have HKS := xhd ((HK3.out.store p 0 (fun h => by have := HG.out; omega) (.int .i64 0)).store p 1 (fun h => by have := HG.out; omega) (.slice none 0 0))
  have HKF := xhd (((Keeps.refl (only p) w3).store p 0 (fun _ => rfl) (.int .i64 0)).store p 1 (fun _ => rfl) (.slice none 0 0))
  have HZ := xhd (show ∀ n : Int, n ≠ 0 → w3.cell? ⟨p, 1, none⟩ ≠ some (.int .i64 n) from fun n _ e => by
   rw [z1] at e
   injection e with e
   cases e)
  go_wp2
  refine bodyPost_ret (y09 rfl _ _ p 36 _ (0, 0) _ rfl HZS.out Tryd.underlying36 rfl (by rw [HI.out]; rfl)) rfl ?_
  exact ⟨_, rfl, HU.out.far HKF.out HZ.out, HKS.out⟩
 ·rw [h4] at HIs hu
  rw [show decide (4 = 2) = false from rfl] at HIs
  have HU := xhd hu
  clear hu hok hk2 HN
  have z0 : w2.cell? ⟨p, 0, none⟩ = some (.int .i64 0) := by rw [HB2.out.cell]; rfl
  have z1 : w2.cell? ⟨p, 1, none⟩ = some (.slice none 0 0) := by rw [HB2.out.cell]; rfl
  have y0 := HB2.out.frozen 0
  have y1 := HB2.out.frozen 1
  have HZS := xhd ((HB2.out.set 0 (.int .i64 0)).set 1 (.slice none 0 0))
  have HKS := xhd ((HK2.out.store p 0 (fun h => by have := HG.out; omega) (.int .i64 0)).store p 1 (fun h => by have := HG.out; omega) (.slice none 0 0))
  have HKF := xhd (((Keeps.refl (only p) w2).store p 0 (fun _ => rfl) (.int .i64 0)).store p 1 (fun _ => rfl) (.slice none 0 0))
  have HZ := xhd (show ∀ n : Int, n ≠ 0 → w2.cell? ⟨p, 1, none⟩ ≠ some (.int .i64 n) from fun n _ e => by
   rw [z1] at e
   injection e with e
   cases e)
  go_wp2_with fail
  refine HIs.out.mono ?_
  rintro e w3 ⟨rfl, rfl⟩
  go_wp2
  refine bodyPost_ret (y09 rfl _ _ p 36 _ (0, 0) _ rfl HZS.out Tryd.underlying36 rfl (by rw [HI.out]; rfl)) rfl ?_
  exact ⟨_, rfl, HU.out.far HKF.out HZ.out, HKS.out⟩
theorem y1m (F : Nat → Prop) (g n B0 : Nat) (bs : List UInt8) (w : World) (hrd : Rd w F g bs) (hF : ∀ b, F b → b ≠ g) (hFl : ∀ b, F b → b < w.heap.size) (h0 : Pure.nextErr 2 1 bs = 0) (hn : n = (bs.getD 1 0).toNat) (hB0 : B0 = (bs.getD 0 0).toNat) :
  Calls Tryd.prog 35 #[.pointer (some ⟨g, 0, none⟩)] w fun e w' => ∃ A c, e = .returned (.tuple #[.agg #[.int .i64 B0, .slice A ((bs.drop 2).take (n - 2)).length c], .nilIface]) ∧
   w'.ownsRow w.heap.size 5 1 (.slice A ((bs.drop 2).take (n - 2)).length c) ((bs.drop 2).take (n - 2)).length (u8s ((bs.drop 2).take (n - 2))) ∧ Rd w' F g (bs.drop n) ∧ Keeps (only g) w w' := by
 obtain ⟨D, hD⟩ : ∃ D, D = (bs.drop 2).take (n - 2) := ⟨_, rfl⟩
 rw [← hD]
 have HFl := xhd hFl
 clear hFl
 have hgl : g < w.heap.size := by obtain ⟨v, hb, _⟩ := hrd; exact hb.lt
 have HI := xhd y11
 obtain ⟨p, hp⟩ : ∃ p, p = w.heap.size := ⟨_, rfl⟩
 go_enter Tryd.func35, Tryd.ntmps35
 go_upto_region 1 with fail
 rw [← hp]
 generalize hw1 : w.alloc _ = w1
 have hB : Blk w1 p 36 #[.int .i64 0, .slice none 0 0] := by rw [← hw1, hp]; exact Blk.new w _ _
 have HK := xhd (show Keeps y03 w w1 by rw [← hw1]; exact (Keeps.refl _ w).alloc _)
 have HG := xhd hp
 have HN := xhd (y1d F g 2 1 bs w1 (hrd.keeps HK.out (fun h => h) (fun _ _ h => h)) hF (by omega) (by omega) (by omega) (by omega))
 have HB := xhd hB
 clear hw1 hp hB hrd hF
 go_wp2_with fail
 refine HN.out.mono ?_
 rintro e w2 ⟨a, b, u, rfl, hu, hk2, hok⟩
 have hgp : p ≠ g := by have := HG.out; omega
 have HB2 := xhd (HB.out.keeps hk2 (fun h => hgp h))
 have HK2 := xhd ((HK.out.mono (T := only g) (fun i h => h.elim)).trans hk2)
 have HIs := xhd (y1j u 0 2 w2 (by rw [← h0]; exact hu) (by omega))
 rw [show decide (0 = 2) = false from rfl] at HIs
 obtain rfl := y2w (by rw [← h0]; exact hu)
 obtain ⟨ha, hb, hrd2⟩ := hok h0
 have hno := Pure.next_option.1 h0
 have n2 : 2 ≤ bs.length := by omega
 rw [Pure.told_option bs n2, ← hn] at hb hrd2
 rw [← hn] at hno
 rw [← hD] at hb
 have hdl : D.length = n - 2 := by rw [hD, List.length_take, List.length_drop]; omega
 have hnb := (bs.getD 1 0).toNat_lt
 have HD2 := xhd (show D.length ≤ 255 by omega)
 rw [← hdl] at hb
 obtain ⟨A, cA, rfl, _⟩ := ha.form
 obtain ⟨B, cB, rfl, _⟩ := hb.form
 have HBR := xhd hb
 have HRd := xhd hrd2
 obtain ⟨bx, ox, rfl, hFb, hcx⟩ := ha.cellAt (by omega)
 have b0 := hcx 0 _ (y10 (bs.take 2) 0 (by rw [List.length_take]; omega))
 rw [Pure.getD_take _ _ _ (by omega), Nat.add_zero, ← hB0] at b0
 have l0 := (bs.getD 0 0).toNat_lt
 rw [← hB0] at l0
 have v0 : IntKind.i64.wrap (B0 : Int) = (B0 : Int) := IntWalk.i64_in _ (by omega)
 have hpx : bx ≠ p := fun e => by have h1 := HFl.out bx hFb; have h2 := HG.out; omega
 have hpb : p < w2.heap.size := HB2.out.lt
 clear ha hb hu hok hk2 HN hrd2 hno n2 hdl hD hn hB0 hcx h0 hnb
 go_wp2_with fail
 refine HIs.out.mono ?_
 rintro e w3 ⟨rfl, rfl⟩
 go_upto_region 6 with fail
 refine y0x (fun w' => w'.cell? ⟨bx, ox, none⟩ = some (.int .u8 B0)) 8 9 rfl (by kernel_rfl) b0 (fun hHeld => ?_)
 refine y01 (i := 0) rfl (by kernel_rfl) (fun _ _ _ h => h) (Or.inl ⟨by rfl, by intro w hSw; go_simp; try with_reducible rfl⟩) hHeld.out ?_
 simp only [Act.put, xqA, xqB, xqD, xqE, xqF]
 refine y01 (i := 1) rfl (by kernel_rfl) (fun _ _ _ h => h) (Or.inl ⟨by rfl, by intro w hSw; go_simp; try with_reducible rfl⟩) hHeld.out ?_
 simp only [Act.put, xqA, xqB, xqC, xqD, xqE, xqF]
 refine y01 (i := 2) rfl (by kernel_rfl) (fun _ _ _ h => h) (Or.inl ⟨by rfl, by intro w hSw; go_simp; try with_reducible rfl⟩) hHeld.out ?_
 simp only [Act.put, xqA, xqB, xqC, xqD, xqE, xqF]
 refine y01 (i := 3) rfl (by kernel_rfl) (fun _ _ _ h => h) (Or.inl ⟨by rfl, by intro w hSw; go_simp; try with_reducible rfl⟩) hHeld.out ?_
 simp only [Act.put, xqA, xqB, xqC, xqD, xqE, xqF]
 refine y01 (i := 4) rfl (by kernel_rfl) (fun _ _ _ h => h) (Or.inl ⟨by rfl, by intro w hSw; go_simp; try with_reducible rfl⟩) hHeld.out ?_
 simp only [Act.put, xqA, xqB, xqC, xqD, xqE, xqF]
 refine y0a (i := 5) (by kernel_rfl) rfl (fun K hK => ?_)
 go_simp
 have hwd : Keeps y03 w2 w2.drew := (Keeps.refl _ w2).drew
 refine (y2e F (.slice B D.length cB) D.length D w2.drew (HBR.out.keeps hwd (fun _ _ h => h)) (by have := HD2.out; omega)).mono ?_
 rintro e w3 ⟨u, rfl, hu, hb3⟩
 have hk3 : Keeps y03 w2 w3 := Keeps.new ⟨hb3.os, hb3.tape, hb3.output, hb3.size, hb3.block⟩
 have hu : w3.ownsRow w2.heap.size 5 1 u D.length (u8s D) := hu
 have HH3 := xhd (y0y hHeld.out (w := w2) hk3)
 refine hK.out _ _ (fun _ => HH3.out) ?_
 clear hK K hHeld
 obtain ⟨A3, c3, rfl⟩ := y06 hu
 have HU3 := xhd hu
 have HB3 := xhd (HB2.out.keeps hk3 (fun x => x))
 have HK3 := xhd (HK2.out.trans (hk3.mono (T := only g) (fun i h => h.elim)))
 have HRd3 := xhd (HRd.out.keeps hk3 (fun h => h) (fun _ _ h => h))
 clear hu hb3 hk3 hwd
 refine y01 (i := 6) rfl (by kernel_rfl) (fun _ _ _ h => h) (Or.inl ⟨by rfl, by intro w hSw; go_simp; try with_reducible rfl⟩) HH3.out ?_
 simp only [Act.put, xqA, xqB, xqC, xqD, xqE, xqF]
 refine y0a (i := 7) (by kernel_rfl) rfl (fun K hK => ?_)
 rw [if_pos (by rfl)]
 refine wp_store_row 36 (.tmp 2) (.tmp 28) rfl p _ rfl rfl 36 _ HB3.out (by rw [HI.out]; rfl) rfl (by simp [Value.oneCell']) ?_
 obtain ⟨w4, hw4⟩ : ∃ w4, w4 = w3.setRow p #[.int .i64 (B0 : Int), .slice A3 D.length c3] := ⟨_, rfl⟩
 have hb4 : Blk w4 p 36 #[.int .i64 (B0 : Int), .slice A3 D.length c3] := by rw [hw4]; exact Blk.rowSet HB3.out _
 have hkg : Keeps (only p) w3 w4 := by rw [hw4]; exact (Keeps.refl (only p) w3).rowSet (fun _ => rfl) _
 have hk4 : Keeps (only g) w w4 := by rw [hw4]; exact HK3.out.rowSet (fun h => by have := HG.out; omega) _
 have HU4 := xhd (y1e (base' := w.heap.size) (y05 HU3.out hkg (fun b hb hs => by have h1 := y04 HU3.out b hb; have h2 : b = p := hs; omega)) HK2.out.size)
 have HRd4 := xhd (HRd3.out.keeps hkg (fun h => hgp h.symm) (fun b hb hs => by have h1 := HFl.out b hb; have h2 : b = p := hs; have := HG.out; omega))
 have HB4 := xhd hb4
 have HK4 := xhd hk4
 have s4 : w4.cell? ⟨bx, ox, none⟩ = some (.int .u8 B0) :=
  (World.cell?_of_block (w := w3) (a := ⟨bx, ox, none⟩) (hkg.block bx (y0c HH3.out) (fun h => hpx h))).trans HH3.out
 have HS4 := xhd s4
 refine hK.out _ _ (fun _ => ?_) ?_
 ·rw [← hw4]; exact HS4.out
 rw [← hw4]
 simp only [Act.put]
 clear hK K hw4 hb4 hkg hk4 s4
 refine y0a (i := 8) (by kernel_rfl) rfl (fun K hK => ?_)
 go_simp
 refine hK.out _ _ (fun _ => HS4.out) ?_
 clear hK K
 refine y0w (by kernel_rfl) ?_ _
 go_wp2_with fail
 refine bodyPost_ret (y09 rfl _ _ p 36 _ (0, 0) _ rfl HB4.out Tryd.underlying36 rfl (by rw [HI.out]; rfl)) rfl ?_
 exact ⟨A3, c3, rfl, HU4.out, HRd4.out, HK4.out⟩
structure Took (w0 w : World) (g : Nat) (v : Value) (ps : List (Value × Pure.Opt)) : Prop where
 own : w.ownsRow w0.heap.size 36 2 v ps.length (y02 ps)
 rows : ∀ p ∈ ps, Row w (fun b => w0.heap.size ≤ b ∧ v.ownBlock ≠ some b ∧ b < w.heap.size) 1 p.1 p.2.2.length (u8s p.2.2)
 keeps : Keeps (only g) w0 w
theorem y1p {rest : List UInt8} {acc : List Pure.Opt} (hne : rest ≠ []) (h32 : acc.length ≠ 32) (h : Pure.nextErr 2 1 rest ≠ 0) : Pure.splitFrom rest acc = (4, []) :=
 Pure.splitFrom_bad hne h32 (Decidable.byContradiction fun hh => h (Pure.next_option.2 hh))
theorem y0t (F : Nat → Prop) (g : Nat) (bs : List UInt8) (w : World) (hrd : Rd w F g bs) (hF : ∀ b, F b → b ≠ g) (hFl : ∀ b, F b → b < w.heap.size) :
  Calls Tryd.prog 26 #[.pointer (some ⟨g, 0, none⟩)] w fun e w' => ∃ u v ps, e = .returned (.tuple #[u, v]) ∧ y0s w' v (Pure.split bs).1 ∧ y00 ps = (Pure.split bs).2 ∧ ORow w' (fun b => w.heap.size ≤ b) u ps ∧ Keeps (only g) w w' := by
 have hgl : g < w.heap.size := by obtain ⟨v, hb, _⟩ := hrd; exact hb.lt
 have HF := xhd hF
 have HFl := xhd hFl
 have HR0 := xhd hrd
 clear hF hFl hrd
 obtain ⟨i0, hi0, hz0, hz1, hz2⟩ := info_parts y17
 have HI := xhd (And.intro hi0 (And.intro hz0 (And.intro hz1 hz2)))
 clear hi0 hz0 hz1 hz2
 go_enter Tryd.func26, Tryd.ntmps26
 go_wp2_with fail
 go_loopw [4] (fun v wr => ∃ (rest : List UInt8) (ps : List (Value × Pure.Opt)), Rd wr F g rest ∧ Pure.split bs = Pure.splitFrom rest (y00 ps) ∧ ps.length ≤ 32 ∧ Took w wr g v ps) (fun _ wr => match wr.cell? ⟨g, 0, none⟩ with | some (.slice _ n _) => n | _ => 0)
 case atStart => exact ⟨bs, [], HR0.out, rfl, by simp, ⟨World.ownsRow_nil _ _ _ _, by simp, Keeps.refl _ _⟩⟩
 case round =>
  obtain ⟨rest, ps, hrr, hsp, hp32, hrd⟩ := hrel
  obtain ⟨A2, c2, rfl⟩ := y06 hrd.own
  have HRR := xhd hrr
  have HSP := xhd hsp
  have HRD := xhd hrd
  have hlo : (y00 ps).length = ps.length := by simp
  obtain ⟨vr, hbr, hrow⟩ := hrr
  obtain ⟨X, cX, rfl, hcX⟩ := hrow.form
  have q0 : wr.cell? ⟨g, 0, none⟩ = some (.slice X rest.length cX) := by rw [hbr.cell]; rfl
  have hm := hrow.2.1
  unfold maxLen at hm
  clear hrow hbr
  by_cases hne : 0 < rest.length
  ·have hnil : rest ≠ [] := List.length_pos_iff.1 hne
   have g0 : decide ((0 : Int) < (rest.length : Int)) = true := decide_eq_true (by omega)
   have g0' : decide (0 < rest.length) = true := decide_eq_true hne
   by_cases h32 : ps.length = 32
   ·have HS := xhd (hsp.trans (Pure.splitFrom_full hnil (by rw [hlo]; exact h32)))
    have g1 : ((ps.length : Int) == 32) = true := by rw [h32]; rfl
    have HO := xhd (fun s => y1w s 3 wr (by omega))
    clear hsp hrd hlo
    go_wp2_with fail
    refine (HO.out _).mono ?_
    rintro e w3 ⟨u, rfl, hu, hb3⟩
    have HU := xhd hu
    have HK3 := xhd (HRD.out.keeps.trans ((Keeps.new hb3).mono (T := only g) (fun i h => h.elim)))
    clear hu hb3 HO
    go_wp2
    go_ret2
    exact ⟨_, _, [], rfl, by rw [HS.out]; exact HU.out, by rw [HS.out]; rfl, ORow.nil _ _, HK3.out⟩
   have g1 : ((ps.length : Int) == 32) = false := by rw [beq_eq_false_iff_ne]; omega
   have hFw : ∀ b, F b → b < wr.heap.size := fun b hb => Nat.lt_of_lt_of_le (HFl.out b hb) hrd.keeps.size
   by_cases h0 : Pure.nextErr 2 1 rest = 0
   ·obtain ⟨B0, hB0⟩ : ∃ b, b = (rest.getD 0 0).toNat := ⟨_, rfl⟩
    obtain ⟨n, hn⟩ : ∃ b, b = (rest.getD 1 0).toNat := ⟨_, rfl⟩
    have HO := xhd (y1m F g n B0 rest wr HRR.out HF.out hFw h0 hn hB0)
    have hgo := hsp.trans (Pure.splitFrom_step (acc := y00 ps) hnil (by rw [hlo]; exact h32) (Pure.next_option.1 h0))
    have hno := Pure.next_option.1 h0
    rw [← hn, ← hB0] at hgo
    rw [← hn] at hno
    obtain ⟨D, hD⟩ : ∃ D, D = (rest.drop 2).take (n - 2) := ⟨_, rfl⟩
    rw [← hD] at HO hgo
    have HGO := xhd hgo
    have HN := xhd (show (rest.drop n).length + 2 ≤ rest.length by rw [List.length_drop]; omega)
    have hdl : D.length ≤ 255 := by
     have h1 := (rest.getD 1 0).toNat_lt
     rw [hD, List.length_take]; omega
    clear hsp hrd hlo hFw hB0 hgo hno hD h0 hn
    go_wp2_with fail
    refine HO.out.mono ?_
    rintro e w3 ⟨A3, c3, rfl, hu, hrd3, hk3⟩
    have HU := xhd hu
    have HR3 := xhd hrd3
    have HK3 := xhd hk3
    clear hu hrd3 hk3 HO
    go_upto_region 8 with fail
    obtain ⟨r, hr⟩ : ∃ r, r = w3.heap.size := ⟨_, rfl⟩
    rw [← hr]
    generalize hw4 : w3.alloc _ = w4
    have hb4 : Blk w4 r 36 #[.int .i64 (B0 : Int), .slice A3 D.length c3] := by rw [← hw4, hr]; exact Blk.new w3 _ _
    have hk4 : Keeps y03 w3 w4 := by rw [← hw4]; exact (Keeps.refl _ w3).alloc _
    have c0 : w4.cell? ⟨r, 0, none⟩ = some (.int .i64 (B0 : Int)) := by rw [hb4.cell]; rfl
    have c1 : w4.cell? ⟨r, 1, none⟩ = some (.slice A3 D.length c3) := by rw [hb4.cell]; rfl
    have HB4 := xhd hb4
    have HK4 := xhd hk4
    clear hw4 hb4 hk4 hr
    go_wp2_with (at_builtin; refine y0i ?_)
    unfold Hid
    obtain ⟨wb, hwb⟩ : ∃ wb, wb = w4.alloc (.cells (y02 [(.slice A3 D.length c3, ((B0 : Int), D))]).toArray 36) := ⟨_, rfl⟩
    have hwb' : w4.alloc (.cells #[.int .i64 (B0 : Int), .slice A3 D.length c3] 36) = wb := hwb.symm
    rw [hwb']
    have hkb : Keeps y03 w4 wb := by rw [hwb]; exact (Keeps.refl _ w4).alloc _
    have hbb : Blk wb w4.heap.size 36 (y02 [(.slice A3 D.length c3, ((B0 : Int), D))]).toArray := by rw [hwb]; exact Blk.new w4 _ _
    have hrb : Row wb (fun b => b = w4.heap.size) 2 (.slice (some ⟨w4.heap.size, 0, none⟩) 1 1) 1 (y02 [(.slice A3 D.length c3, ((B0 : Int), D))]) :=
     Row.block (F := fun b => b = w4.heap.size) (n := 1) (c := 1) (size := 2) hbb rfl rfl (by unfold maxLen; omega) (Nat.le_refl _)
    have hk3b : Keeps y03 w3 wb := HK4.out.trans hkb
    have hkr : Keeps (only g) wr wb := HK3.out.trans (hk3b.mono (fun i h => h.elim))
    have hownb : wb.ownsRow w.heap.size 36 2 (.slice A2 ps.length c2) ps.length (y02 ps) := y05 HRD.out.own hkr (fun b hb h => by have h1 := y04 HRD.out.own b hb; have h2 : b = g := h; omega)
    have hub : wb.ownsRow wr.heap.size 5 1 (.slice A3 D.length c3) D.length (u8s D) := y05 HU.out hk3b (fun _ _ h => h)
    have hKb : Keeps (only g) w wb := HRD.out.keeps.trans hkr
    have hone : ∀ p ∈ ([(.slice A3 D.length c3, ((B0 : Int), D))] : List (Value × Pure.Opt)), p.1.oneCell' = true := by
     intro p hp
     simp at hp
     subst hp
     rfl
    clear hwb hwb'
    refine y0b rfl (.tmp 25) (.tmp 27) _ rfl w.heap.size 36 i0 _ 2 32 Tryd.underlying29 HI.out.1 HI.out.2.1 HI.out.2.2.1 HI.out.2.2.2 rfl (by omega) (.slice A2 ps.length c2) _ (y02 ps) rfl hownb _ _ 1 (y02 [(.slice A3 D.length c3, ((B0 : Int), D))]) rfl hrb (y0l _ hone) (by unfold maxLen; omega) (by omega) hKb.size ?_
    intro v3 w5 hown5 hg5 hat5
    have hcat : y02 ps ++ y02 [(.slice A3 D.length c3, ((B0 : Int), D))] = y02 (ps ++ [(.slice A3 D.length c3, ((B0 : Int), D))]) := by simp [y02]
    rw [hcat] at hown5
    have hkw : Keeps (fun b => (Value.slice A2 ps.length c2).ownBlock = some b) wb w5 := (Keeps.refl _ wb).grown hg5 (fun k hk _ => hk)
    have hge : ∀ b, (Value.slice A2 ps.length c2).ownBlock = some b → w.heap.size ≤ b := fun b hb => y04 hownb b hb
    have hK5 : Keeps (only g) w w5 := hKb.grown hg5 (fun k hk h => absurd (hge k hk) (by omega))
    have hwrs : w.heap.size ≤ wr.heap.size := HRD.out.keeps.size
    have hwrb : wr.heap.size ≤ wb.heap.size := hkr.size
    have htook : Took w w5 g v3 (ps ++ [(.slice A3 D.length c3, ((B0 : Int), D))]) := by
     refine ⟨by rw [List.length_append]; exact hown5, fun p hp => ?_, hK5⟩
     rcases List.mem_append.1 hp with hp | hp
     ·have h1 := ((HRD.out.rows p hp).keeps hkr (fun b hb h => by have h2 : b = g := h; omega)).keeps hkw (fun b hb => hb.2.1)
      refine h1.mono (fun b hb => ⟨hb.1, ?_, by have := hkw.size; omega⟩)
      rcases hat5 with e | e
      ·rw [e]; exact hb.2.1
      ·rw [e]; intro h; injection h with h; omega
     ·simp at hp
      subst hp
      have h1 := (Row.of_own hub).keeps hkw (fun b hb hs => by
       have h2 := y04 hub b hb
       have h3 := y07 HRD.out.own b hs
       omega)
      refine h1.mono (fun b hb => ⟨by have := y04 hub b hb; omega, ?_, by have := y07 hub b hb; have := hkw.size; omega⟩)
      have h2 := y04 hub b hb
      rcases hat5 with e | e
      ·rw [e]; intro h; have := y07 HRD.out.own b h; omega
      ·rw [e]; intro h; injection h with h; have := y07 hub b hb; omega
    have hrd5 : Rd w5 F g (rest.drop n) := (HR3.out.keeps hk3b (fun h => h) (fun _ _ h => h)).keeps hkw (fun h => by have := hge g h; omega) (fun b hb hs => by have h1 := HFl.out b hb; have h2 := hge b hs; omega)
    have HT5 := xhd htook
    have HR5 := xhd hrd5
    have HSP5 := xhd (show Pure.split bs = Pure.splitFrom (rest.drop n) (y00 (ps ++ [(.slice A3 D.length c3, ((B0 : Int), D))])) by rw [HGO.out]; simp [y00])
    obtain ⟨A4, c4, rfl⟩ := y06 hown5
    obtain ⟨v5, hb5, hr5⟩ := hrd5
    obtain ⟨X5, cX5, rfl, _⟩ := hr5.form
    have q5 : w5.cell? ⟨g, 0, none⟩ = some (.slice X5 (rest.drop n).length cX5) := by rw [hb5.cell]; rfl
    have Q0 := xhd q0
    have Q5 := xhd q5
    clear hown5 hg5 hat5 hcat hkw hge hK5 htook hrb hbb hub hownb hKb hone hkb hkr hk3b c0 c1 hwrs hwrb hr5 hb5 q5 q0
    go_wp2_with fail
    go_roundw
    case rel => exact ⟨rest.drop n, _, HR5.out, HSP5.out, by rw [List.length_append]; simp only [List.length_cons, List.length_nil]; omega, HT5.out⟩
    case measure => rw [Q5.out, Q0.out]; have := HN.out; simp only; omega
   ·have HS := xhd (hsp.trans (y1p hnil (by rw [hlo]; exact h32) h0))
    have HO := xhd (y19 F g rest wr HRR.out HF.out h0)
    clear hsp hrd hlo hFw h0
    go_wp2_with fail
    refine HO.out.mono ?_
    rintro e w3 ⟨fb, rfl, hu, hk3⟩
    have HU := xhd hu
    have HUe := xhd (fun (o : Obj) => hu.keeps ((Keeps.refl y03 w3).alloc o) (fun _ h => h))
    have HK3 := xhd (HRD.out.keeps.trans hk3)
    clear hu hk3 HO
    go_wp2
    go_ret2
    exact ⟨_, _, [], rfl, by rw [HS.out]; exact HUe.out _, by rw [HS.out]; rfl, ORow.nil _ _, HK3.out.alloc _⟩
  ·have hz : rest = [] := List.eq_nil_of_length_eq_zero (by omega)
   subst hz
   have HS := xhd (show Pure.split bs = (0, y00 ps) from hsp.trans (Pure.splitFrom_nil _))
   clear hsp hrd hlo hne
   go_wp2
   go_ret2
   exact ⟨_, .nilIface, ps, rfl, by rw [HS.out]; exact .inl ⟨rfl, rfl⟩, by rw [HS.out], ⟨(Row.of_own HRD.out.own).mono (fun b hb => y04 HRD.out.own b hb), fun p hp => (HRD.out.rows p hp).mono (fun b hb => hb.1)⟩, HRD.out.keeps⟩
theorem y1o (F : Nat → Prop) (x : Value) (bs : List UInt8) (w : World) (hg : y0e w) (hF : ∀ b, F b → b < w.heap.size) (hr : Row w F 1 x bs.length (u8s bs)) :
  Calls Tryd.prog 11 #[x] w fun e w' => ∃ u ps, e = .returned (.tuple #[u, .int .i64 (((Pure.split bs).1 : Nat) : Int)]) ∧ y00 ps = (Pure.split bs).2 ∧ ORow w' (fun b => w.heap.size ≤ b) u ps ∧ Below w.heap.size w w' := by
 obtain ⟨A, cA, rfl, hc⟩ := hr.form
 have HR := xhd hr
 have HF := xhd hF
 have HH := xhd hg
 clear hr hF hg
 have HP0 := y0t F
 obtain ⟨dd, hdd⟩ : ∃ d, d = Pure.split bs := ⟨_, rfl⟩
 have HP := fun g w => HP0 g bs w
 rw [← hdd] at HP ⊢
 obtain ⟨k, D⟩ := dd
 have HP := xhd HP
 clear hdd HP0
 go_enter Tryd.func11, Tryd.ntmps11
 go_upto_region 2 with fail
 obtain ⟨q, hq⟩ : ∃ q, q = w.heap.size := ⟨_, rfl⟩
 rw [← hq]
 generalize hw2 : w.alloc _ = w2
 have hrd : Rd w2 F q bs := by rw [← hw2, hq]; exact Rd.new HR.out
 have hk2 : Keeps y03 w w2 := by rw [← hw2]; exact (Keeps.refl _ w).alloc _
 have HQ := xhd hq
 have HK2 := xhd hk2
 have HPW := xhd (HP.out q w2 hrd (fun b hb => by have := HF.out b hb; omega) (fun b hb => Nat.lt_of_lt_of_le (HF.out b hb) hk2.size))
 clear hw2 hrd hk2 hq HP
 go_wp2_with fail
 refine HPW.out.mono ?_
 rintro e w3 ⟨u, v, ps, rfl, hv, hps, hu, hk3⟩
 obtain ⟨A3, c3, rfl, _⟩ := hu.form
 have HB3 := xhd (Below.keeps HK2.out.to_below hk3 HK2.out.size (fun i h => by have h : i = q := h; have := HQ.out; omega))
 have HN := xhd (y2i v k w3 (HH.out.below HB3.out) hv)
 have HU := xhd hu
 have HPS := xhd hps
 clear hu hv hk3 hps HPW
 go_wp2_with fail
 refine HN.out.mono ?_
 rintro e w4 ⟨rfl, hb4⟩
 have hk4 := Keeps.new hb4
 have HU4 := xhd ((HU.out.keeps hk4 (fun _ _ h => h)).mono (G := fun b => w.heap.size ≤ b) (fun b hb => Nat.le_trans HK2.out.size hb))
 have HB4 := xhd (Below.quiet HB3.out hk4 HB3.out.size)
 clear hk4 hb4 HN
 go_wp2
 go_ret2
 exact ⟨_, ps, rfl, HPS.out, HU4.out, HB4.out⟩
theorem y29 : y1u := fun F x bs w hg hF hr => y1o F x bs w hg hF hr
section
variable {w0 w : World}
theorem y37 (hg : y0e w0) (B : Below w0.heap.size w0 w) (l : List UInt8) (cs : Array Value) (n : Nat) (k : Nat) (hc : cs = (u8s l).toArray) (hn : n = l.length) (hl : l.length ≤ 1000) (hd : Pure.decode l = (k, Pure.noPkt)) :
  Calls Tryd.prog 12 #[.slice (some ⟨w.heap.size, 0, none⟩) n n] (w.alloc (.cells cs 5)) fun e w' => ∃ A c, e = .returned (.tuple #[.agg #[.int .i64 0, .int .i64 0, .slice A 0 c], .int .i64 k]) ∧ Below w0.heap.size w0 w' ∧ Keeps y03 w w' := by
 have hk := (Keeps.refl y03 w).alloc (.cells cs 5)
 have hB := Below.quiet B hk B.size
 refine (y14 (fun b => b = w.heap.size) _ l (w.alloc (.cells cs 5)) (hg.below hB) (fun b hb => by have hb : b = w.heap.size := hb; simp [hb]) (y1g w l cs n hc hn (by omega))).mono ?_
 rintro e w' ⟨u, rfl, hu, hb⟩
 rw [hd] at hu ⊢
 obtain ⟨A, c, rfl, _⟩ := hu.form
 exact ⟨A, c, rfl, Below.quiet hB (Keeps.new hb) hB.size, hk.trans (Keeps.new hb)⟩
theorem y3d (hg : y0e w0) (B : Below w0.heap.size w0 w) (l : List UInt8) (cs : Array Value) (n : Nat) (k : Nat) (os : List Pure.Opt) (hc : cs = (u8s l).toArray) (hn : n = l.length) (hl : l.length ≤ 1000) (hd : Pure.split l = (k, os)) :
  Calls Tryd.prog 11 #[.slice (some ⟨w.heap.size, 0, none⟩) n n] (w.alloc (.cells cs 5)) fun e w' => ∃ A c ps, e = .returned (.tuple #[.slice A os.length c, .int .i64 k]) ∧ y00 ps = os ∧ ORow w' (fun b => w.heap.size ≤ b) (.slice A os.length c) ps ∧ Below w0.heap.size w0 w' ∧ Keeps y03 w w' := by
 have hk := (Keeps.refl y03 w).alloc (.cells cs 5)
 have hB := Below.quiet B hk B.size
 refine (y29 (fun b => b = w.heap.size) _ l (w.alloc (.cells cs 5)) (hg.below hB) (fun b hb => by have hb : b = w.heap.size := hb; simp [hb]) (y1g w l cs n hc hn (by omega))).mono ?_
 rintro e w' ⟨u, ps, rfl, hps, hu, hb⟩
 rw [hd] at hps ⊢
 dsimp only at hps ⊢
 obtain ⟨A, c, rfl, _⟩ := hu.form
 have hpl : ps.length = os.length := by rw [← hps]; simp
 rw [hpl] at hu ⊢
 exact ⟨A, c, ps, rfl, hps, hu.mono (fun b hb => Nat.le_trans hk.size hb), Below.quiet hB (Keeps.new hb) hB.size, hk.trans (Keeps.new hb)⟩
theorem y4k (B : Below w0.heap.size w0 w) (c i : Int) (l bs : List UInt8) (cs : Array Value) (n k : Nat) (hc : cs = (u8s l).toArray) (hn : n = l.length) (hl : l.length ≤ 1000) (hd : Pure.encode ⟨c, i, l⟩ = (k, bs)) :
  Calls Tryd.prog 10 #[.agg #[.int .i64 c, .int .i64 i, .slice (some ⟨w.heap.size, 0, none⟩) n n]] (w.alloc (.cells cs 5)) fun e w' => ∃ A c, e = .returned (.tuple #[.slice A bs.length c, .int .i64 k]) ∧ w'.ownsRow w.heap.size 5 1 (.slice A bs.length c) bs.length (u8s bs) ∧ Below w0.heap.size w0 w' ∧ Keeps y03 w w' := by
 have hk := (Keeps.refl y03 w).alloc (.cells cs 5)
 have hB := Below.quiet B hk B.size
 refine (y15 (fun b => b = w.heap.size) _ ⟨c, i, l⟩ (w.alloc (.cells cs 5)) (fun b hb => by have hb : b = w.heap.size := hb; simp [hb]) (y1g w l cs n hc hn (by omega))).mono ?_
 rintro e w' ⟨u, rfl, hu, hb⟩
 rw [hd] at hu ⊢
 obtain ⟨A, c, rfl⟩ := y06 hu
 exact ⟨A, c, rfl, y1e hu hk.size, Below.quiet hB (Keeps.new hb) hB.size, hk.trans (Keeps.new hb)⟩
end
theorem y4l : Pure.encode ⟨1, 7, [1, 4, 5, 220]⟩ = (0, [1, 7, 0, 8, 1, 4, 5, 220]) := by decide +kernel
theorem y4m : Pure.split [1, 4, 5, 220] = (0, [(1, [5, 220])]) := by decide +kernel
theorem y4e : Pure.split [1, 1] = (4, []) := by decide +kernel
theorem y4f : Pure.split [1] = (4, []) := by decide +kernel
theorem known_one {ps : List (Value × Pure.Opt)} {t : Int} {l : List UInt8} (h : y00 ps = [(t, l)]) : ∃ v, ps = [(v, (t, l))] := by
 match ps, h with
 | [(v, o)], h => simp at h; exact ⟨v, by rw [h]⟩
theorem packetKnown_walk (w : World) (hg : y0e w) : Calls Tryd.prog 3 #[] w fun e w' => e = .returned (.bool true) ∧ Below w.heap.size w w' := by
 have HG := xhd hg
 clear hg
 go_enter Tryd.func3, Tryd.ntmps3
 go_wp2_with fail
 refine (y1i y15 y14 w HG.out).mono ?_
 rintro e w1 ⟨rfl, hb1⟩
 have H1 := xhd hb1
 clear hb1
 go_wp2_with fail
 refine (y4k H1.out 1 7 [1, 4, 5, 220] _ _ 4 0 rfl rfl (by simp) y4l).mono ?_
 rintro e w2 ⟨A2, c2, rfl, hu2, hb2, _⟩
 have U2 := xhd hu2
 have H2 := xhd hb2
 clear hu2 hb2 H1
 go_wp2_with fail
 refine (y3d HG.out H2.out [1, 4, 5, 220] _ 4 0 _ rfl rfl (by simp) y4m).mono ?_
 rintro e w3 ⟨A3, c3, ps, rfl, hps, hu3, hb3, hk3⟩
 have U23 := xhd (y08 U2.out hk3)
 have U3 := xhd hu3
 have H3 := xhd hb3
 obtain ⟨v3, rfl⟩ := known_one hps
 clear hu3 hb3 hk3 hps U2 H2
 go_wp2_with fail
 refine (y37 HG.out H3.out [1, 7, 0] _ 3 2 rfl rfl (by simp) (Pure.decode_short (by decide))).mono ?_
 rintro e w4 ⟨A4, c4, rfl, hb4, hk4⟩
 have U24 := xhd (y08 U23.out hk4)
 have U4 := xhd (U3.out.keeps hk4 (fun _ _ h => h))
 have H4 := xhd hb4
 clear hb4 hk4 U23 U3 H3
 go_upto_region 6 with fail
 obtain ⟨x4, hx4⟩ : ∃ x, x = w4.alloc (.cells #[.int .i64 0, .int .i64 0, .slice A4 0 c4] 28) := ⟨_, rfl⟩
 rw [← hx4]
 have hk4 : Keeps y03 w4 x4 := by rw [hx4]; exact (Keeps.refl _ w4).alloc _
 have V24 := xhd (y08 U24.out hk4)
 have V4 := xhd (U4.out.keeps hk4 (fun _ _ h => h))
 have G4 := xhd (Below.quiet H4.out hk4 H4.out.size)
 clear hk4 hx4 U24 U4 H4
 go_wp2_with fail
 refine (y37 HG.out G4.out [1, 7, 0, 3] _ 4 4 rfl rfl (by simp) (Pure.decode_form (by decide) (by decide +kernel))).mono ?_
 rintro e w5 ⟨A5, c5, rfl, hb5, hk5⟩
 have U25 := xhd (y08 V24.out hk5)
 have U5 := xhd (V4.out.keeps hk5 (fun _ _ h => h))
 have H5 := xhd hb5
 clear hb5 hk5 V24 V4 G4
 go_upto_region 7 with fail
 obtain ⟨x5, hx5⟩ : ∃ x, x = w5.alloc (.cells #[.int .i64 0, .int .i64 0, .slice A5 0 c5] 28) := ⟨_, rfl⟩
 rw [← hx5]
 have hk5 : Keeps y03 w5 x5 := by rw [hx5]; exact (Keeps.refl _ w5).alloc _
 have V25 := xhd (y08 U25.out hk5)
 have V5 := xhd (U5.out.keeps hk5 (fun _ _ h => h))
 have G5 := xhd (Below.quiet H5.out hk5 H5.out.size)
 clear hk5 hx5 U25 U5 H5
 go_wp2_with fail
 refine (y37 HG.out G5.out [1, 7, 0, 5] _ 4 2 rfl rfl (by simp) (Pure.decode_cut (by decide) (by decide +kernel) (by decide +kernel))).mono ?_
 rintro e w6 ⟨A6, c6, rfl, hb6, hk6⟩
 have U26 := xhd (y08 V25.out hk6)
 have U6 := xhd (V5.out.keeps hk6 (fun _ _ h => h))
 have H6 := xhd hb6
 clear hb6 hk6 V25 V5 G5
 go_upto_region 8 with fail
 obtain ⟨x6, hx6⟩ : ∃ x, x = w6.alloc (.cells #[.int .i64 0, .int .i64 0, .slice A6 0 c6] 28) := ⟨_, rfl⟩
 rw [← hx6]
 have hk6 : Keeps y03 w6 x6 := by rw [hx6]; exact (Keeps.refl _ w6).alloc _
 have V26 := xhd (y08 U26.out hk6)
 have V6 := xhd (U6.out.keeps hk6 (fun _ _ h => h))
 have G6 := xhd (Below.quiet H6.out hk6 H6.out.size)
 clear hk6 hx6 U26 U6 H6
 go_wp2_with fail
 refine (y3d HG.out G6.out [1, 1] _ 2 4 _ rfl rfl (by simp) y4e).mono ?_
 rintro e w7 ⟨A7, c7, ps7, rfl, _, _, hb7, hk7⟩
 have U27 := xhd (y08 V26.out hk7)
 have U7 := xhd (V6.out.keeps hk7 (fun _ _ h => h))
 have H7 := xhd hb7
 clear hb7 hk7 V26 V6 G6
 go_wp2_with fail
 refine (y3d HG.out H7.out [1] _ 1 4 _ rfl rfl (by simp) y4f).mono ?_
 rintro e w8 ⟨A8, c8, ps8, rfl, _, _, hb8, hk8⟩
 have U28 := xhd (y08 U27.out hk8)
 have U8 := xhd (U7.out.keeps hk8 (fun _ _ h => h))
 have H8 := xhd hb8
 clear hb8 hk8 U27 U7 H7
 go_wp2_with fail
 have hk9 := (Keeps.refl y03 w8).alloc (.cells #[.int .u8 1, .int .u8 7, .int .u8 0, .int .u8 8, .int .u8 1, .int .u8 4, .int .u8 5, .int .u8 220] 5)
 refine (y2v (w0 := w) (a := [1, 7, 0, 8, 1, 4, 5, 220]) (b := [1, 7, 0, 8, 1, 4, 5, 220]) (Below.quiet H8.out hk9 H8.out.size) (Row.of_own (y08 U28.out hk9)) (y1g w8 [1, 7, 0, 8, 1, 4, 5, 220] _ 8 rfl rfl (by simp)) rfl rfl).mono ?_
 rintro e wa ⟨rfl, hka, hba⟩
 have HA := xhd hba
 obtain ⟨p, o, A1, c1, t, la, e3, _, x0, x1, _, hpa⟩ := (U8.out.keeps (hk9.trans hka) (fun _ _ h => h)).pick 0 (by simp)
 subst e3
 simp only [List.getElem?_cons_zero, Option.some.injEq, Prod.mk.injEq] at hpa
 obtain ⟨rfl, rfl, rfl⟩ := hpa
 simp only [Nat.zero_mul, Nat.add_zero] at x0 x1
 clear hba hka hk9 U28 U8 H8
 go_wp2
 go_ret
 exact ⟨rfl, HA.out⟩
end Go.Proofs.YtnkepeiedmdnoaaDoor
