/- What chapter 11 says of packets and options. Nothing of the program. -/
import Derived.Laws.Rows
import Derived.Laws.Tables
import Derived.Laws.CopyOwn
import Derived.Test.YtgphfindolaljaaC1
namespace Go.Proofs.Ytgphfindolaljaa
set_option maxRecDepth 100000
set_option maxHeartbeats 4000000
open _root_.Go.Lib renaming hid → xhd
open List renaming setIfInBounds_toArray → xqA, getElem_toArray → xqB, getElem_cons_succ → xqC, getElem_cons_zero → xqD, set_cons_succ → xqE, set_cons_zero → xqF
namespace Pure
structure Pkt where
 code : Int
 id : Int
 data : List UInt8
def Pkt.odd (p : Pkt) : Prop := p.code < 0 ∨ 255 < p.code ∨ p.id < 0 ∨ 255 < p.id
instance (p : Pkt) : Decidable p.odd := by unfold Pkt.odd; infer_instance
def Pkt.bytes (p : Pkt) : List UInt8 :=
 [UInt8.ofNat p.code.toNat, UInt8.ofNat p.id.toNat, UInt8.ofNat ((p.data.length + 4) / 256), UInt8.ofNat ((p.data.length + 4) % 256)] ++ p.data
def encode (p : Pkt) : Nat × List UInt8 := if p.odd then (1, []) else if 1496 < p.data.length then (3, []) else (0, p.bytes)
theorem encode_odd {p : Pkt} (h : p.odd) : encode p = (1, []) := if_pos h
theorem encode_long {p : Pkt} (h : ¬ p.odd) (hl : 1496 < p.data.length) : encode p = (3, []) := by unfold encode; rw [if_neg h, if_pos hl]
theorem encode_ok {p : Pkt} (h : ¬ p.odd) (hl : ¬ 1496 < p.data.length) : encode p = (0, p.bytes) := by unfold encode; rw [if_neg h, if_neg hl]
abbrev Opt := Int × List UInt8
def Opt.odd (o : Opt) : Prop := o.1 < 0 ∨ 255 < o.1 ∨ 253 < o.2.length
instance (o : Opt) : Decidable (Opt.odd o) := by unfold Opt.odd; infer_instance
def Opt.bytes (o : Opt) : List UInt8 := [UInt8.ofNat o.1.toNat, UInt8.ofNat (o.2.length + 2)] ++ o.2
def joined (l : List Opt) : List UInt8 := l.flatMap Opt.bytes
def options (l : List Opt) : Nat × List UInt8 := if 32 < l.length then (3, []) else if ∃ o ∈ l, Opt.odd o then (1, []) else (0, joined l)
theorem options_long {l : List Opt} (h : 32 < l.length) : options l = (3, []) := if_pos h
theorem options_odd {l : List Opt} (h : ¬ 32 < l.length) (o : Opt) (ho : o ∈ l) (hodd : Opt.odd o) : options l = (1, []) := by unfold options; rw [if_neg h, if_pos ⟨o, ho, hodd⟩]
theorem options_ok {l : List Opt} (h : ¬ 32 < l.length) (ho : ∀ o ∈ l, ¬ Opt.odd o) : options l = (0, joined l) := by
 unfold options
 rw [if_neg h, if_neg (fun ⟨o, h1, h2⟩ => ho o h1 h2)]
def y1g : Nat → List UInt8 → List Opt → Nat × List Opt
 | 0, _, acc => (0, acc)
 | f + 1, b, acc =>
  if b = [] then (0, acc)
  else if acc.length = 32 then (3, [])
  else if b.length < 2 ∨ (b.getD 1 0).toNat < 2 ∨ b.length < (b.getD 1 0).toNat then (4, [])
  else y1g f (b.drop (b.getD 1 0).toNat) (acc ++ [(((b.getD 0 0).toNat : Int), (b.drop 2).take ((b.getD 1 0).toNat - 2))])
theorem y34 : ∀ (f g : Nat) (b : List UInt8) (acc : List Opt), b.length ≤ f → b.length ≤ g → y1g f b acc = y1g g b acc
 | 0, 0, _, _, _, _ => rfl
 | 0, g + 1, b, acc, hf, _ => by
  have : b = [] := List.eq_nil_of_length_eq_zero (by omega)
  subst this; simp [y1g]
 | f + 1, 0, b, acc, _, hg => by
  have : b = [] := List.eq_nil_of_length_eq_zero (by omega)
  subst this; simp [y1g]
 | f + 1, g + 1, b, acc, hf, hg => by
  unfold y1g
  split
  ·rfl
  ·split
   ·rfl
   ·split
    ·rfl
    ·rename_i h
     exact y34 f g _ _ (by rw [List.length_drop]; omega) (by rw [List.length_drop]; omega)
def y14 (b : List UInt8) (acc : List Opt) : Nat × List Opt := y1g b.length b acc
theorem y69 (acc : List Opt) : y14 [] acc = (0, acc) := rfl
theorem y5g {b : List UInt8} (acc : List Opt) (hb : b ≠ []) : y14 b acc =
  if acc.length = 32 then (3, []) else if b.length < 2 ∨ (b.getD 1 0).toNat < 2 ∨ b.length < (b.getD 1 0).toNat then (4, [])
  else y14 (b.drop (b.getD 1 0).toNat) (acc ++ [(((b.getD 0 0).toNat : Int), (b.drop 2).take ((b.getD 1 0).toNat - 2))]) := by
 have h0 : 0 < b.length := List.length_pos_iff.2 hb
 obtain ⟨n, hn⟩ : ∃ n, b.length = n + 1 := ⟨b.length - 1, by omega⟩
 conv => lhs; unfold y14; rw [hn]; unfold y1g
 rw [if_neg hb]
 split
 ·rfl
 ·split
  ·rfl
  ·rename_i h
   exact y34 _ _ _ _ (by rw [List.length_drop]; omega) (Nat.le_refl _)
def split (b : List UInt8) : Nat × List Opt := y14 b []
theorem y5h {b : List UInt8} {acc : List Opt} (hb : b ≠ []) (h : acc.length ≠ 32) (h2 : ¬ (b.length < 2 ∨ (b.getD 1 0).toNat < 2 ∨ b.length < (b.getD 1 0).toNat)) :
  y14 b acc = y14 (b.drop (b.getD 1 0).toNat) (acc ++ [(((b.getD 0 0).toNat : Int), (b.drop 2).take ((b.getD 1 0).toNat - 2))]) := by rw [y5g acc hb, if_neg h, if_neg h2]
end Pure
open Go.RowKit
abbrev y09 (ps : List (Value × Pure.Opt)) : List Value := ps.flatMap fun p => [.int .i64 p.2.1, p.1]
theorem y1j (ps : List (Value × Pure.Opt)) : (y09 ps).length = ps.length * 2 := by
 induction ps with
 | nil => rfl
 | cons p ps ih => rw [y09, List.flatMap_cons, List.length_append, ih]; simp; omega
theorem y3g (ps : List (Value × Pure.Opt)) (k : Nat) (p : Value × Pure.Opt) (h : ps[k]? = some p) : (y09 ps)[2 * k]? = some (.int .i64 p.2.1) ∧ (y09 ps)[2 * k + 1]? = some p.1 := by
 induction ps generalizing k with
 | nil => simp at h
 | cons q ps ih =>
  rcases k with _ | k
  ·simp at h
   subst h
   exact ⟨rfl, rfl⟩
  ·have := ih k (by simpa using h)
   rw [y09, List.flatMap_cons]
   rw [List.getElem?_append_right (by simp; omega), List.getElem?_append_right (by simp; omega)]
   simpa [Nat.mul_add, Nat.add_assoc] using this
structure ORow (w : World) (F : Nat → Prop) (x : Value) (ps : List (Value × Pure.Opt)) : Prop where
 out : Row w F 2 x ps.length (y09 ps)
 rows : ∀ p ∈ ps, Row w F 1 p.1 p.2.2.length (u8s p.2.2)
theorem ORow.keeps {S F : Nat → Prop} {w w' : World} {x : Value} {ps : List (Value × Pure.Opt)} (h : ORow w F x ps) (k : Keeps S w w') (hs : ∀ b, F b → ¬ S b) : ORow w' F x ps :=
 ⟨h.out.keeps k hs, fun p hp => (h.rows p hp).keeps k hs⟩
theorem ORow.mono {F G : Nat → Prop} {w : World} {x : Value} {ps : List (Value × Pure.Opt)} (h : ORow w F x ps) (hG : ∀ b, F b → G b) : ORow w G x ps :=
 ⟨h.out.mono hG, fun p hp => (h.rows p hp).mono hG⟩
theorem ORow.nil (w : World) (F : Nat → Prop) : ORow w F (.slice none 0 0) [] := ⟨Row.nil _ _ _, by simp⟩
theorem y5c {w : World} {a : Option Addr} {len cap : Nat} (h : y0q w [.int .i64, .row .u8] a len cap) :
  ∃ ps : List (Value × Pure.Opt), ps.length = len ∧ ORow w (fun b => b < w.heap.size) (.slice a len cap) ps ∧ ∀ p ∈ ps, -9223372036854775808 ≤ p.2.1 ∧ p.2.1 ≤ 9223372036854775807 := by
 rcases h with ⟨rfl, rfl, rfl⟩ | ⟨x, rfl, hl, hm, hi⟩
 ·exact ⟨[], rfl, ORow.nil _ _, by simp⟩
 ·obtain ⟨ps, hpl, hps⟩ := y28 (P := fun i (d : Value × Pure.Opt) => w.cell? (x.add (i * 2)) = some (.int .i64 d.2.1) ∧ w.cell? (x.add (i * 2 + 1)) = some d.1 ∧ Row w (fun b => b < w.heap.size) 1 d.1 d.2.2.length (u8s d.2.2) ∧ (-9223372036854775808 ≤ d.2.1 ∧ d.2.1 ≤ 9223372036854775807)) len (fun i hil => by
   obtain ⟨u, hu, n, rfl, hn⟩ := hi i hil 0 _ rfl
   obtain ⟨v, hv, a', l', c', zs, rfl, hr⟩ := hi i hil 1 _ rfl
   obtain ⟨bs, hbl, hrow⟩ := hr.bytes
   refine ⟨(.slice a' l' c', n, bs), by simpa using hu, by simpa using hv, ?_, y1f hn⟩
   rw [← hbl] at hrow ⊢
   exact hrow)
  refine ⟨ps, hpl, ⟨⟨by rw [y1j], by omega, some x, cap, by rw [hpl], by omega, by simp, fun h0 => ?_⟩, fun p hp => ?_⟩, fun p hp => ?_⟩
  ·have h1 := (hps 0 ps[0] (List.getElem?_eq_getElem h0)).1
   obtain ⟨b, off, rfl⟩ := y1y h1
   rw [y15] at h1
   refine ⟨b, off, rfl, y0n h1, fun j u hu => ?_⟩
   have hj : j < ps.length * 2 := by
    have := (List.getElem?_eq_some_iff.1 hu).1
    rwa [y1j] at this
   have hk : j / 2 < ps.length := by omega
   obtain ⟨q1, q2, _, _⟩ := hps (j / 2) _ (List.getElem?_eq_getElem hk)
   obtain ⟨o1, o2⟩ := y3g ps (j / 2) _ (List.getElem?_eq_getElem hk)
   rcases (show j = 2 * (j / 2) ∨ j = 2 * (j / 2) + 1 by omega) with e | e
   ·rw [e, o1] at hu
    injection hu with hu
    subst hu
    rw [y15] at q1
    rw [show off + j = off + j / 2 * 2 by omega]
    exact q1
   ·rw [e, o2] at hu
    injection hu with hu
    subst hu
    rw [y15] at q2
    rw [show off + j = off + (j / 2 * 2 + 1) by omega]
    exact q2
  ·obtain ⟨i, hi', rfl⟩ := List.getElem_of_mem hp
   exact (hps i _ (List.getElem?_eq_getElem hi')).2.2.1
  ·obtain ⟨i, hi', rfl⟩ := List.getElem_of_mem hp
   exact (hps i _ (List.getElem?_eq_getElem hi')).2.2.2
theorem ORow.form {w : World} {F : Nat → Prop} {x : Value} {ps : List (Value × Pure.Opt)} (h : ORow w F x ps) : ∃ A c, x = .slice A ps.length c ∧ ps.length ≤ c := by
 obtain ⟨_, _, A, c, rfl, hc, _⟩ := h.out
 exact ⟨A, c, rfl, hc⟩
theorem ORow.pick {w : World} {F : Nat → Prop} {X : Option Addr} {n cx : Nat} {ps : List (Value × Pure.Opt)} (h : ORow w F (.slice X n cx) ps) (k : Nat) (hk : k < ps.length) :
  ∃ p o A c t bs, X = some ⟨p, o, none⟩ ∧ F p ∧ w.cell? ⟨p, o + k * 2, none⟩ = some (.int .i64 t) ∧ w.cell? ⟨p, o + k * 2 + 1, none⟩ = some (.slice A bs.length c) ∧ Row w F 1 (.slice A bs.length c) bs.length (u8s bs) ∧ ps[k]? = some (.slice A bs.length c, t, bs) := by
 obtain ⟨_, _, A', c', e, _, _, hh⟩ := h.out
 obtain ⟨p, o, rfl, hF, hc⟩ := hh (by omega)
 injection e with e1 _ _
 have hget := List.getElem?_eq_getElem hk
 have hr := h.rows ps[k] (List.getElem_mem hk)
 obtain ⟨A, c, hform, _⟩ := hr.form
 obtain ⟨o1, o2⟩ := y3g ps k _ hget
 have c1 := hc _ _ o1
 have c2 := hc _ _ o2
 rw [hform] at c2 hr
 rw [← Nat.add_assoc] at c2
 rw [Nat.mul_comm 2 k] at c1 c2
 refine ⟨p, o, A, c, ps[k].2.1, ps[k].2.2, e1, hF, c1, c2, hr, ?_⟩
 rw [hget, ← hform]
section
variable {P : Program} {ops : Array Oper} {Q : Exit → Act → World → Prop} {md : Region.Mode} {S : World → Prop} {z : Nat}
def y12 (P : Program) (md : Region.Mode) (ops : Array Oper) (Q : Exit → Act → World → Prop) (S : World → Prop) (z : Nat) : Nat → Array Bool → Act → World → Prop
 | 0, listed, a, w => Region.ready md ops listed = [] ∧ Q .normal a w
 | fuel + 1, listed, a, w =>
  (Region.ready md ops listed = [] → Q .normal a w) ∧
  ∀ i ∈ Region.ready md ops listed, wpOp P ops Q i (fun a' w' => (i ≠ z → S w') ∧ y12 P md ops Q S z fuel (listed.setIfInBounds i true) a' w') a w
theorem y49 : ∀ (fuel : Nat) (listed : Array Bool) (a : Act) (w : World), y12 P md ops Q S z fuel listed a w → wpAny P md ops Q fuel listed a w
 | 0, _, _, _, h => h
 | fuel + 1, _, _, _, h => ⟨h.1, fun i hi => wpOp_mono (fun a' w' h' => y49 fuel _ a' w' h'.2) (h.2 i hi)⟩
inductive Waits (md : Region.Mode) (ops : Array Oper) (z : Nat) : Nat → Prop
 | one {o : Oper} {e : Edge} (ho : ops[z]? = some o) (he : e ∈ o.after) (hb : Region.binds md e = true) : Waits md ops z e.on
 | more {k : Nat} {o : Oper} {e : Edge} (h : Waits md ops z k) (ho : ops[k]? = some o) (he : e ∈ o.after) (hb : Region.binds md e = true) : Waits md ops z e.on
def y5b (md : Region.Mode) : List Edge → Array Bool → Array Bool
 | [], r => r
 | e :: es, r => y5b md es (if Region.binds md e = true then r.setIfInBounds e.on true else r)
def y30 (md : Region.Mode) (ops : Array Oper) : Nat → Array Bool → Array Bool
 | 0, r => r
 | k + 1, r => y30 md ops k (if r.getD k false = true then (match ops[k]? with | some o => y5b md o.after.toList r | none => r) else r)
def y22 (md : Region.Mode) (ops : Array Oper) (z i : Nat) : Bool := (y30 md ops ops.size ((Array.replicate ops.size false).setIfInBounds z true)).getD i false && i != z
theorem y2c {r : Array Bool} {i j : Nat} (h : (r.setIfInBounds i true).getD j false = true) : j = i ∨ r.getD j false = true := by
 by_cases hij : i = j
 ·exact .inl hij.symm
 ·rw [getD_set_ne false hij] at h
  exact .inr h
theorem y2o {z : Nat} (hz : ∀ e, Region.binds md e = true → (∃ k o, ops[k]? = some o ∧ e ∈ o.after ∧ (k = z ∨ Waits md ops z k)) → Waits md ops z e.on) :
  ∀ (es : List Edge) (r : Array Bool), (∀ e ∈ es, ∃ k o, ops[k]? = some o ∧ e ∈ o.after ∧ (k = z ∨ Waits md ops z k)) → (∀ j, r.getD j false = true → j = z ∨ Waits md ops z j) →
   ∀ j, (y5b md es r).getD j false = true → j = z ∨ Waits md ops z j
 | [], _, _, hr => hr
 | e :: es, r, he, hr => by
  refine y2o hz es _ (fun e' h' => he e' (by simp [h'])) (fun j hj => ?_)
  split at hj
  ·rename_i hb
   rcases y2c hj with rfl | hj
   ·exact .inr (hz e hb (he e (by simp)))
   ·exact hr j hj
  ·exact hr j hj
theorem y6a {z : Nat} (e : Edge) (hb : Region.binds md e = true) (h : ∃ k o, ops[k]? = some o ∧ e ∈ o.after ∧ (k = z ∨ Waits md ops z k)) : Waits md ops z e.on := by
 obtain ⟨k, o, ho, he, rfl | hk⟩ := h
 ·exact .one ho he hb
 ·exact .more hk ho he hb
theorem y26 {z : Nat} : ∀ (k : Nat) (r : Array Bool), (∀ j, r.getD j false = true → j = z ∨ Waits md ops z j) → ∀ j, (y30 md ops k r).getD j false = true → j = z ∨ Waits md ops z j
 | 0, _, hr => hr
 | k + 1, r, hr => by
  refine y26 k _ (fun j hj => ?_)
  split at hj
  ·rename_i hk
   cases ho : ops[k]? with
   | none => rw [ho] at hj; exact hr j hj
   | some o =>
    rw [ho] at hj
    exact y2o (fun e hb h => y6a e hb h) o.after.toList r (fun e he => ⟨k, o, ho, by simpa using he, hr k hk⟩) hr j hj
  ·exact hr j hj
theorem rep_false (n j : Nat) : (Array.replicate n false).getD j false = false := by
 rw [Array.getD_eq_getD_getElem?, Array.getElem?_replicate]
 split <;> rfl
theorem y3a {z i : Nat} (h : y22 md ops z i = true) : Waits md ops z i := by
 unfold y22 at h
 simp only [Bool.and_eq_true, bne_iff_ne, ne_eq] at h
 rcases y26 (md := md) (ops := ops) (z := z) ops.size _ (fun j hj => by
  rcases y2c hj with rfl | hj
  ·exact .inl rfl
  ·rw [rep_false] at hj
   cases hj) i h.1 with h1 | h1
 ·exact absurd h1 h.2
 ·exact h1
def y1x (md : Region.Mode) (ops : Array Oper) (listed : Array Bool) : Prop :=
 ∀ (j : Nat) (o : Oper), ops[j]? = some o → listed.getD j false = true → ∀ e ∈ o.after, Region.binds md e = true → listed.getD e.on false = true
def y4a (md : Region.Mode) (ops : Array Oper) (listed : Array Bool) : Bool :=
 (List.range ops.size).all fun j => !listed.getD j false || match ops[j]? with
  | none => true
  | some o => o.after.all fun e => !Region.binds md e || listed.getD e.on false
theorem closed_of {listed : Array Bool} (h : y4a md ops listed = true) : y1x md ops listed := by
 intro j o ho hl e he hb
 simp only [y4a, List.all_eq_true, List.mem_range] at h
 have := h j (Array.getElem?_eq_some_iff.1 ho).1
 rw [hl, ho] at this
 simp only [Bool.not_true, Bool.false_or] at this
 have := Array.all_eq_true'.1 this e he
 rw [hb] at this
 simpa using this
theorem y1x.set {listed : Array Bool} (h : y1x md ops listed) {i : Nat} (hr : i ∈ Region.ready md ops listed) : y1x md ops (listed.setIfInBounds i true) := by
 intro j o ho hl e he hb
 by_cases hij : i = j
 ·subst hij
  obtain ⟨_, o', ho', hall⟩ := mem_ready.1 hr
  rw [ho] at ho'
  injection ho' with ho'
  subst ho'
  exact getD_set_true (hall e he hb)
 ·rw [getD_set_ne false hij] at hl
  exact getD_set_true (h j o ho hl e he hb)
theorem y6q {listed : Array Bool} (hc : y1x md ops listed) {z i : Nat} (h : Waits md ops z i) (hz : ∀ o, ops[z]? = some o → ∀ e ∈ o.after, Region.binds md e = true → listed.getD e.on false = true) : listed.getD i false = true := by
 induction h with
 | one ho he hb => exact hz _ ho _ he hb
 | more _ ho he hb ih => exact hc _ _ ho ih _ he hb
theorem y36 {i : Nat} {listed : Array Bool} (hc : y1x md ops listed) (h : y22 md ops z i = true) (hi : listed.getD i true = false) (hs : i < listed.size) : z ∉ Region.ready md ops listed := by
 intro hz
 obtain ⟨_, o, ho, hall⟩ := mem_ready.1 hz
 have h1 := y6q hc (y3a h) (fun o' ho' e he hb => by
  rw [ho] at ho'
  injection ho' with ho'
  subst ho'
  exact hall e he hb)
 simp [hs] at h1 hi
 rw [hi] at h1
 cases h1
theorem y6r {i : Nat} {oi : Oper} {v : Value} (hi : ops[i]? = some oi) (hsel : ∀ (j : Nat) (o : Oper) cs b, ops[j]? = some o → o.op ≠ .select cs b)
  (hQ : ∀ c a w, Q (.panic c) (a.put oi.dst v) w → Q (.panic c) a w) (hz : y22 md ops z i = true) :
  ∀ (fuel : Nat) (listed : Array Bool) (a : Act) (w : World),
   (∀ j oj, ops[j]? = some oj → j ≠ i → listed.getD j true = false → (∀ e ∈ oj.after, Region.binds md e = true → e.on ≠ i) → oi.apart ops oj = true) →
   y1x md ops listed → i < listed.size → i ∈ Region.ready md ops listed → YieldsIf P ops S oi v a → S w →
   y12 P md ops Q S z fuel (listed.setIfInBounds i true) (a.put oi.dst v) w → y12 P md ops Q S z (fuel + 1) listed a w := by
 intro fuel
 induction fuel with
 | zero =>
  intro listed a w _ _ _ hr hy hS H
  refine ⟨fun h => (by rw [h] at hr; cases hr), fun j hj => ?_⟩
  by_cases hji : j = i
  ·subst hji; exact hy.wpOp hi hS ⟨fun _ => hS, H⟩
  ·have := ready_mono hj hji
   rw [H.1] at this
   cases this
 | succ fuel ih =>
  intro listed a w hfree hcl hsz hr hy hS H
  refine ⟨fun h => (by rw [h] at hr; cases hr), fun j hj => ?_⟩
  by_cases hji : j = i
  ·subst hji; exact hy.wpOp hi hS ⟨fun _ => hS, H⟩
  ·have hjz : j ≠ z := fun e => y36 hcl hz (mem_ready.1 hr).1 hsz (e ▸ hj)
   have h1 := H.2 j (ready_mono hj hji)
   obtain ⟨hjun, oj, hoj, hall⟩ := mem_ready.1 hj
   have hnot : ∀ e ∈ oj.after, Region.binds md e = true → e.on ≠ i := fun e he hb heq => by
    have h1 := hall e he hb
    have h0 := (mem_ready.1 hr).1
    rw [heq] at h1
    simp [hsz] at h0 h1
    rw [h0] at h1
    cases h1
   have h2 := wpOp_putIf hoj (hfree j oj hoj hji hjun hnot) (fun cs b => hsel i oi cs b hi) (fun cs b => hsel j oj cs b hoj) hQ hy h1
   have hfree' : ∀ k ok, ops[k]? = some ok → k ≠ i → (listed.setIfInBounds j true).getD k true = false →
     (∀ e ∈ ok.after, Region.binds md e = true → e.on ≠ i) → oi.apart ops ok = true := fun k ok hk hki hun hno => by
    refine hfree k ok hk hki ?_ hno
    by_cases hjk : j = k
    ·subst hjk; exact hjun
    ·rw [getD_set_ne true hjk] at hun; exact hun
   refine wpOp_mono (fun a' w' h3 => ⟨fun _ => h3.2.1 hjz, ih (listed.setIfInBounds j true) a' w' hfree' (hcl.set hj) (by simpa using hsz) (ready_mono hr (Ne.symm hji)) h3.1 (h3.2.1 hjz) ?_⟩) h2
   rw [Array.setIfInBounds_comm _ _ hji]
   exact h3.2.2
theorem y00 {i : Nat} {oi : Oper} {v : Value} {fuel : Nat} {listed : Array Bool} {a : Act} {w : World} (hi : ops[i]? = some oi)
  (hc : (Region.noSelect ops && Region.free md ops listed i && (Region.ready md ops listed).contains i && y22 md ops z i && decide (i < listed.size) && y4a md ops listed) = true)
  (hQ : ∀ c a w, Q (.panic c) (a.put oi.dst v) w → Q (.panic c) a w) (hy : YieldsIf P ops S oi v a) (hS : S w)
  (h : y12 P md ops Q S z fuel (listed.setIfInBounds i true) (a.put oi.dst v) w) : y12 P md ops Q S z (fuel + 1) listed a w := by
 simp only [Bool.and_eq_true, decide_eq_true_eq] at hc
 obtain ⟨⟨⟨⟨⟨h1, h2⟩, h3⟩, h4⟩, h5⟩, h6⟩ := hc
 exact y6r hi (Region.noSelect_spec h1) hQ h4 fuel listed a w (Region.free_spec hi h2) (closed_of h6) h5 (by simpa using h3) hy hS h
theorem y05 {i : Nat} {o : Oper} {fuel : Nat} {listed : Array Bool} {a : Act} {w : World} (hr : Region.ready md ops listed = [i]) (ho : ops[i]? = some o)
  (h : ∀ K' : Act → World → Prop, Shut (∀ a w, (i ≠ z → S w) → y12 P md ops Q S z fuel (listed.setIfInBounds i true) a w → K' a w) →
   if Region.wanted o (yielded ops a.tmps) = true then Oper.wp P o a w K' Q else K' (a.put o.dst undef) w) : y12 P md ops Q S z (fuel + 1) listed a w :=
 ⟨fun h0 => (by rw [h0] at hr; cases hr), fun j hj => by
  rw [hr] at hj
  obtain rfl : j = i := by simpa using hj
  exact wpOp_step ho (fun K' hK => h K' (fun a w hS hW => hK a w ⟨hS, hW⟩))⟩
def marks (size : Nat) : Nat → Array Bool
 | 0 => Array.replicate size false
 | n + 1 => (marks size n).setIfInBounds n true
theorem y0d {listed : Array Bool} {a : Act} {w : World} (hr : Region.ready md ops listed = []) (h : Q .normal a w) :
  ∀ fuel, y12 P md ops Q S z fuel listed a w
 | 0 => ⟨hr, h⟩
 | _ + 1 => ⟨fun _ => h, by rw [hr]; simp⟩
theorem y0e {id : Nat} {a : Act} {w : World} (S : World → Prop) (z size : Nat) (hsz : ops.size = size) (hm : P.follows .mixedOrders = true) (hS : S w.drew)
  (h : Go.RowKit.Hid (S w.drew) → y12 P .any ops Q S z size (marks size 0) a w.drew) : (Code.region id ops true).wp P Q a w :=
 wp_region_any hm (by rw [hsz]; exact y49 size _ _ _ (h hS))
end
abbrev optV (p : Value × Pure.Opt) : Value := .agg #[.int .i64 p.2.1, p.1]
theorem y42 (F G : Nat → Prop) (v u : Value) (a b : Pure.Opt) (w : World) (hx : Row w F 1 v a.2.length (u8s a.2)) (hy : Row w G 1 u b.2.length (u8s b.2)) :
  Calls Try.prog 29 #[optV (v, a), optV (u, b)] w fun e w' => e = .returned (.bool (decide (a = b))) ∧ Keeps y02 w w' := by
 obtain ⟨A, cA, rfl, hc⟩ := hx.form
 obtain ⟨B, cB, rfl, hd⟩ := hy.form
 obtain ⟨s, la⟩ := a
 obtain ⟨t, lb⟩ := b
 dsimp only at *
 have HX := xhd hx
 have HY := xhd hy
 clear hx hy
 obtain ⟨g, hg⟩ : ∃ g, g = w.heap.size := ⟨_, rfl⟩
 go_enter Try.func29, Try.ntmps29
 go_upto_region 1 with fail
 obtain ⟨w1, hw1⟩ : ∃ w1, w1 = (w.alloc (.cells #[.int .i64 s, .slice A la.length cA] 40)).alloc (.cells #[.int .i64 t, .slice B lb.length cB] 40) := ⟨_, rfl⟩
 rw [← hw1, ← hg]
 have hb1 : Blk w1 g 40 #[.int .i64 s, .slice A la.length cA] := by rw [hw1, hg]; exact (Blk.new w _ _).alloc _
 have hb2 : Blk w1 (g + 1) 40 #[.int .i64 t, .slice B lb.length cB] := by
  rw [hw1, hg]
  have := Blk.new (w.alloc (.cells #[.int .i64 s, .slice A la.length cA] 40)) 40 #[.int .i64 t, .slice B lb.length cB]
  rw [World.size_alloc] at this
  exact this
 have hk : Keeps y02 w w1 := by rw [hw1]; exact ((Keeps.refl _ w).alloc _).alloc _
 have a0 : w1.cell? ⟨g, 0, none⟩ = some (.int .i64 s) := by rw [hb1.cell]; rfl
 have a1 : w1.cell? ⟨g, 1, none⟩ = some (.slice A la.length cA) := by rw [hb1.cell]; rfl
 have b0 : w1.cell? ⟨g + 1, 0, none⟩ = some (.int .i64 t) := by rw [hb2.cell]; rfl
 have b1 : w1.cell? ⟨g + 1, 1, none⟩ = some (.slice B lb.length cB) := by rw [hb2.cell]; rfl
 have HS := xhd (y3v F G _ _ la lb w1 (HX.out.keeps hk (fun _ _ h => h)) (HY.out.keeps hk (fun _ _ h => h)))
 have HK := xhd hk
 clear hw1 hb1 hb2 hk hg
 by_cases hst : s = t
 ·have d0 : (s == t) = true := by rw [hst]; exact beq_self_eq_true t
  have hdec : decide ((s, la) = (t, lb)) = decide (la = lb) := by rw [hst]; simp
  have HD := xhd hdec
  obtain ⟨r, hr⟩ : ∃ r, r = decide (la = lb) := ⟨_, rfl⟩
  rw [← hr] at HS HD
  clear hst hdec hr
  go_wp2_with fail
  refine HS.out.mono ?_
  rintro e w2 ⟨rfl, hk2⟩
  have HK2 := xhd (HK.out.trans hk2)
  clear hk2 HS
  cases r
  ·go_wp2
   go_ret
   exact ⟨by rw [HD.out]; rfl, HK2.out⟩
  ·go_wp2
   go_ret
   exact ⟨by rw [HD.out]; rfl, HK2.out⟩
 ·have d0 : (s == t) = false := by rw [beq_eq_false_iff_ne]; exact hst
  have HD := xhd (show decide ((s, la) = (t, lb)) = false from decide_eq_false (fun e => hst (congrArg Prod.fst e)))
  clear hst HS
  go_wp2
  go_ret
  exact ⟨by rw [HD.out]; rfl, HK.out⟩
theorem y08 {w w' : World} {b off : Nat} {u : Value} (h : w.cell? ⟨b, off, none⟩ = some u) (k : Keeps y02 w w') : w'.cell? ⟨b, off, none⟩ = some u :=
 (World.cell?_of_block (w := w) (a := ⟨b, off, none⟩) (k.block b (y0n h) (fun x => x))).trans h
abbrev y01 (ps : List (Value × Pure.Opt)) : List Pure.Opt := ps.map Prod.snd
theorem y1z (F G : Nat → Prop) (x y : Value) (ps qs : List (Value × Pure.Opt)) (w : World) (hx : ORow w F x ps) (hy : ORow w G y qs) :
  Calls Try.prog 11 #[x, y] w fun e w' => e = .returned (.bool (decide (y01 ps = y01 qs))) ∧ Keeps y02 w w' := by
 obtain ⟨A, cA, rfl, hc⟩ := hx.form
 obtain ⟨B, cB, rfl, hd⟩ := hy.form
 have hm := hx.out.2.1
 have hm2 := hy.out.2.1
 unfold maxLen at hm hm2
 have HX := xhd hx
 have HY := xhd hy
 clear hx hy
 by_cases hl : ps.length = qs.length
 ·have e1 : ((ps.length : Int) != (qs.length : Int)) = false := by rw [hl]; simp
  have HL := xhd hl
  rw [← hl] at HY ⊢
  rw [← hl] at e1
  clear hl hm2
  go_enter Try.func11, Try.ntmps11
  go_wp2
  clear e1
  go_loopw [5] (fun i wr => ∃ k : Nat, k ≤ ps.length ∧ i = .int .i64 (k : Int) ∧ (y01 ps).take k = (y01 qs).take k ∧ Keeps y02 w wr) (fun i _ => ps.length - (intOf i).toNat)
  case atStart => exact ⟨0, by omega, rfl, by simp, Keeps.refl _ _⟩
  case round =>
   obtain ⟨k, hk, rfl, hT, hK⟩ := hrel
   have HT := xhd hT
   have HK := xhd hK
   by_cases hkl : k < ps.length
   ·have i0 : (0 : Int) ≤ (k : Int) := by omega
    have i1 : (k : Int) < (ps.length : Int) := by omega
    have hkq : k < qs.length := by have := HL.out; omega
    obtain ⟨p, o, A1, c1, s, la, rfl, hFp, x0, x1, hra, hpa⟩ := (HX.out.keeps hK (fun _ _ h => h)).pick k hkl
    obtain ⟨q, o2, A2, c2, t, lb, rfl, hGq, y0, y1, hrb, hqb⟩ := (HY.out.keeps hK (fun _ _ h => h)).pick k hkq
    have HRA := xhd hra
    have HRB := xhd hrb
    have HPA := xhd hpa
    have HQB := xhd hqb
    clear hT hK hra hrb hpa hqb
    go_upto_region 6 with fail
    refine y0e (fun w' => w'.cell? ⟨p, o + k * 2, none⟩ = some (.int .i64 s) ∧ w'.cell? ⟨p, o + k * 2 + 1, none⟩ = some (.slice A1 la.length c1) ∧ w'.cell? ⟨q, o2 + k * 2, none⟩ = some (.int .i64 t) ∧ w'.cell? ⟨q, o2 + k * 2 + 1, none⟩ = some (.slice A2 lb.length c2)) 9 10 rfl (by kernel_rfl) ⟨x0, x1, y0, y1⟩ (fun hHeld => ?_)
    refine y00 (i := 0) rfl (by kernel_rfl) (fun _ _ _ h => h) (Or.inl ⟨by rfl, by intro w hSw; obtain ⟨s0, s1, s2, s3⟩ := hSw; go_simp; try with_reducible rfl⟩) hHeld.out ?_
    simp only [Act.put, xqA, xqB, xqD, xqE, xqF]
    refine y00 (i := 1) rfl (by kernel_rfl) (fun _ _ _ h => h) (Or.inl ⟨by rfl, by intro w hSw; obtain ⟨s0, s1, s2, s3⟩ := hSw; go_simp; try with_reducible rfl⟩) hHeld.out ?_
    simp only [Act.put, xqA, xqB, xqC, xqD, xqE, xqF]
    refine y00 (i := 2) rfl (by kernel_rfl) (fun _ _ _ h => h) (Or.inl ⟨by rfl, by intro w hSw; obtain ⟨s0, s1, s2, s3⟩ := hSw; go_simp; try with_reducible rfl⟩) hHeld.out ?_
    simp only [Act.put, xqA, xqB, xqC, xqD, xqE, xqF]
    refine y00 (i := 3) rfl (by kernel_rfl) (fun _ _ _ h => h) (Or.inl ⟨by rfl, by intro w hSw; obtain ⟨s0, s1, s2, s3⟩ := hSw; go_simp; try with_reducible rfl⟩) hHeld.out ?_
    simp only [Act.put, xqA, xqB, xqC, xqD, xqE, xqF]
    refine y00 (i := 4) rfl (by kernel_rfl) (fun _ _ _ h => h) (Or.inl ⟨by rfl, by intro w hSw; obtain ⟨s0, s1, s2, s3⟩ := hSw; go_simp; try with_reducible rfl⟩) hHeld.out ?_
    simp only [Act.put, xqA, xqB, xqC, xqD, xqE, xqF]
    refine y00 (i := 5) rfl (by kernel_rfl) (fun _ _ _ h => h) (Or.inl ⟨by rfl, by intro w hSw; obtain ⟨s0, s1, s2, s3⟩ := hSw; go_simp; try with_reducible rfl⟩) hHeld.out ?_
    simp only [Act.put, xqA, xqB, xqC, xqD, xqE, xqF]
    refine y00 (i := 6) rfl (by kernel_rfl) (fun _ _ _ h => h) (Or.inl ⟨by rfl, by intro w hSw; obtain ⟨s0, s1, s2, s3⟩ := hSw; go_simp; try with_reducible rfl⟩) hHeld.out ?_
    simp only [Act.put, xqA, xqB, xqC, xqD, xqE, xqF]
    refine y00 (i := 7) rfl (by kernel_rfl) (fun _ _ _ h => h) (Or.inl ⟨by rfl, by intro w hSw; obtain ⟨s0, s1, s2, s3⟩ := hSw; go_simp; try with_reducible rfl⟩) hHeld.out ?_
    simp only [Act.put, xqA, xqB, xqC, xqD, xqE, xqF]
    refine y05 (i := 8) (by kernel_rfl) rfl (fun K hK => ?_)
    go_simp
    have hwd : Keeps y02 wr wr.drew := (Keeps.refl _ wr).drew
    refine (y42 F G (.slice A1 la.length c1) (.slice A2 lb.length c2) (s, la) (t, lb) wr.drew (HRA.out.keeps hwd (fun _ _ h => h)) (HRB.out.keeps hwd (fun _ _ h => h))).mono ?_
    rintro e w2 ⟨rfl, hk2⟩
    have hk2 : Keeps y02 wr w2 := hwd.trans hk2
    have HH2 := xhd (show w2.cell? ⟨p, o + k * 2, none⟩ = some (.int .i64 s) ∧ w2.cell? ⟨p, o + k * 2 + 1, none⟩ = some (.slice A1 la.length c1) ∧ w2.cell? ⟨q, o2 + k * 2, none⟩ = some (.int .i64 t) ∧ w2.cell? ⟨q, o2 + k * 2 + 1, none⟩ = some (.slice A2 lb.length c2) from
     ⟨y08 x0 hk2, y08 x1 hk2, y08 y0 hk2, y08 y1 hk2⟩)
    refine hK.out _ _ (fun _ => HH2.out) ?_
    have HK2 := xhd (HK.out.trans hk2)
    obtain ⟨r, hr⟩ : ∃ r, r = decide ((s, la) = (t, lb)) := ⟨_, rfl⟩
    rw [← hr]
    have HRr := xhd hr
    clear hK K hHeld hwd hk2 hr x0 x1 y0 y1 HK
    refine y05 (i := 9) (by kernel_rfl) rfl (fun K hK => ?_)
    go_simp
    refine hK.out _ _ (fun _ => HH2.out) ?_
    clear hK K
    refine y0d (by kernel_rfl) ?_ _
    have hps : (y01 ps)[k]? = some (s, la) := by rw [List.getElem?_map, HPA.out]; rfl
    have hqs : (y01 qs)[k]? = some (t, lb) := by rw [List.getElem?_map, HQB.out]; rfl
    cases r
    ·have hno : decide (y01 ps = y01 qs) = false := by
      rw [decide_eq_false_iff_not]
      intro he
      rw [he, hqs] at hps
      injection hps with hps
      have := HRr.out
      rw [hps] at this
      simp at this
     have HNO := xhd hno
     clear hno hps hqs
     go_wp2
     go_ret
     exact ⟨by rw [HNO.out]; rfl, HK2.out⟩
    ·have hyes : (s, la) = (t, lb) := of_decide_eq_true HRr.out.symm
     have hTk : (y01 ps).take (k + 1) = (y01 qs).take (k + 1) := by
      rw [List.take_succ_eq_append_getElem (by simpa using hkl), List.take_succ_eq_append_getElem (by simpa using hkq), HT.out]
      congr 1
      have e1 : (y01 ps)[k]'(by simpa using hkl) = (s, la) := by
       have := List.getElem?_eq_getElem (l := y01 ps) (i := k) (by simpa using hkl)
       rw [hps] at this
       injection this with this
       exact this.symm
      have e2 : (y01 qs)[k]'(by simpa using hkq) = (t, lb) := by
       have := List.getElem?_eq_getElem (l := y01 qs) (i := k) (by simpa using hkq)
       rw [hqs] at this
       injection this with this
       exact this.symm
      rw [e1, e2, hyes]
     have HTk := xhd hTk
     clear hyes hTk hps hqs HT
     go_wp2_with fail
     go_roundw
     case rel => exact ⟨k + 1, by omega, by go_num, HTk.out, HK2.out⟩
     case measure => simp [intOf]; omega
   ·have hkk : k = ps.length := by omega
    have hyes : decide (y01 ps = y01 qs) = true := by
     rw [decide_eq_true_eq]
     have h := HT.out
     rw [List.take_of_length_le (by simp; omega), List.take_of_length_le (by simp; have := HL.out; omega)] at h
     exact h
    have HYES := xhd hyes
    subst hkk
    clear hyes hT hK hkl hk HT
    go_wp2
    go_ret
    exact ⟨by rw [HYES.out]; rfl, HK.out⟩
 ·have e1 : ((ps.length : Int) != (qs.length : Int)) = true := by rw [bne_iff_ne]; omega
  have hno : decide (y01 ps = y01 qs) = false := by
   rw [decide_eq_false_iff_not]
   intro he
   have := congrArg List.length he
   simp at this
   exact hl this
  have HNO := xhd hno
  clear hno hl
  go_enter Try.func11, Try.ntmps11
  go_wp2
  go_ret
  exact ⟨by rw [HNO.out]; rfl, Keeps.refl _ _⟩
theorem y5d (w : World) (l : List UInt8) (cs : Array Value) (n : Nat) (hc : cs = (u8s l).toArray) (hn : n = l.length) (hl : l.length ≤ 100000) : Row (w.alloc (.cells cs 5)) (fun b => b = w.heap.size) 1 (.slice (some ⟨w.heap.size, 0, none⟩) n n) l.length (u8s l) := by
 subst hc hn
 exact Row.block (Blk.new w 5 (u8s l).toArray) rfl (by simp) (by unfold maxLen; omega) (Nat.le_refl _)
section
variable {w : World} {ops : Array Oper} {rest : List Oper} {o : Oper} {a : Act} {Q : Exit → Act → World → Prop}
theorem y23 (hgd : o.guard = none) (s x : Operand) (ho : o.op = .call { callee := .builtin .append, args := #[s, x], argTypes := #[38, 38] })
  (base : Nat) (v : Value) (n : Nat) (l : List UInt8) (hn : l.length = n) (hs : a.eval s = v) (hown : w.ownsRow base 5 1 v n (u8s l))
  (F : Nat → Prop) (y : Value) (m : List UInt8) (hx : a.eval x = y) (hr : Row w F 1 y m.length (u8s m)) (hlen : n + m.length ≤ 140737488355328) (hbase : base ≤ w.heap.size)
  (h : ∀ v' w', w'.ownsRow base 5 1 v' (l ++ m).length (u8s (l ++ m)) → w.grownBy w' v.ownBlock → (v'.ownBlock = v.ownBlock ∨ v'.ownBlock = some w.heap.size) → wpList Try.prog ops Q rest (a.put o.dst v') w') :
  wpList Try.prog ops Q (o :: rest) a w := by
 obtain ⟨i0, hi0, hz0, hz1, hz2⟩ := info_parts y1w
 subst hn
 refine y0k hgd s x _ ho base 5 i0 _ 1 1 Try.underlying38 hi0 hz0 hz1 hz2 rfl (by omega) v _ (u8s l) hs hown F y m.length (u8s m) hx hr (y35 m) (by simp only [maxLen]; omega) (by omega) hbase ?_
 intro v' w' h1 h2 h3
 refine h v' w' ?_ h2 h3
 rw [List.length_append]
 simpa using h1
end
theorem Row.strong {w : World} {F : Nat → Prop} {v : Value} {n : Nat} {xs : List Value} (h : Row w F 1 v n xs) : Row w (fun b => F b ∧ b < w.heap.size) 1 v n xs := by
 obtain ⟨h1, h0, A, c, h2, h3, h4, h5⟩ := h
 refine ⟨h1, h0, A, c, h2, h3, h4, fun hn => ?_⟩
 obtain ⟨b, off, e, f, g⟩ := h5 hn
 refine ⟨b, off, e, ⟨f, ?_⟩, g⟩
 exact y0n (g 0 xs[0] (List.getElem?_eq_getElem (by omega)))
theorem Row.one {w : World} {F : Nat → Prop} {v : Value} {n : Nat} {xs : List Value} (h : Row w F 1 v n xs) : v.oneCell' = true := by
 obtain ⟨_, _, A, c, rfl, _⟩ := h
 rfl
theorem y0y {w : World} {o : Obj} {a : Addr} {v : Value} (h : w.cell? a = some v) : (w.alloc o).cell? a = some v :=
 (World.cell?_alloc_lt w o a (by rcases Nat.lt_or_ge a.block w.heap.size with hl | hg; exact hl; simp [World.cell?, Array.getElem?_eq_none hg] at h)).trans h
theorem y6h (l : List Pure.Opt) (o : Pure.Opt) : Pure.joined (l ++ [o]) = Pure.joined l ++ Pure.Opt.bytes o := by simp [Pure.joined]
theorem y21 (l : List Pure.Opt) (k : Nat) (o : Pure.Opt) (h : l[k]? = some o) : l.take (k + 1) = l.take k ++ [o] := by
 have hk := (List.getElem?_eq_some_iff.1 h).1
 rw [List.take_succ_eq_append_getElem hk]
 rw [List.getElem?_eq_getElem hk] at h
 injection h with h
 rw [h]
theorem y1m : (Try.prog.info? 40).map (fun i => (i.zero, i.size, i.bytes)) = some (some (.agg #[.int .i64 0, .slice none 0 0]), 2, 32) := by kernel_rfl
theorem y11 (ps : List (Value × Pure.Opt)) (h : ∀ p ∈ ps, p.1.oneCell' = true) : ∀ u ∈ y09 ps, u.oneCell' = true := by
 intro u hu
 obtain ⟨p, hp, hu⟩ := List.mem_flatMap.1 hu
 simp at hu
 rcases hu with rfl | rfl
 ·rfl
 ·exact h p hp
structure Read (w0 w : World) (v : Value) (ps : List (Value × Pure.Opt)) : Prop where
 own : w.ownsRow w0.heap.size 40 2 v ps.length (y09 ps)
 rows : ∀ p ∈ ps, Row w (fun b => w0.heap.size ≤ b ∧ v.ownBlock ≠ some b ∧ b < w.heap.size) 1 p.1 p.2.2.length (u8s p.2.2)
 below : Below w0.heap.size w0 w
theorem y0m {P : Program} {fn : Func} {p u : Tmp} {ty : TypeId} (h : fn.results = #[.cell p ty, .tmp u]) (tmps : Array Value) (w : World) (g : Nat) (t : TypeId) (cs : Array Value) (fr : Nat × Nat) (d : TypeDesc)
  (hp : tmps.getD p undef = .pointer (some ⟨g, 0, none⟩)) (hg : w.heap[g]? = some (.cells cs t fr))
  (hu : P.underlying ty = some d) (hd : (match d with | .struct _ | .array _ _ => true | _ => false) = true) (hi : (P.info? ty).map (·.size) = some cs.size) :
  (results fn tmps).run P w = .ok (.tuple #[.agg cs, tmps.getD u undef]) w := by
 have hp' : tmps[p]?.getD undef = .pointer (some ⟨g, 0, none⟩) := by simpa using hp
 simp [results, h, hp', asAddr, run_loadVar_row w g t ty cs fr d hg hu hd hi, Result.andThen]
theorem y0a {w w' : World} {b off : Nat} {u : Value} (h : w.cell? ⟨b, off, none⟩ = some u) (k : Keeps y02 w w') : w'.cell? ⟨b, off, none⟩ = some u :=
 (World.cell?_of_block (w := w) (a := ⟨b, off, none⟩) (k.block b (y0n h) (fun x => x))).trans h
theorem Read.keeps {w0 w w' : World} {v : Value} {qs : List (Value × Pure.Opt)} (h : Read w0 w v qs) (k : Keeps y02 w w') : Read w0 w' v qs :=
 ⟨y0f h.own k (fun _ _ h => h), fun p hp => ((h.rows p hp).keeps k (fun _ _ h => h)).mono (fun _ hb => ⟨hb.1, hb.2.1, Nat.lt_of_lt_of_le hb.2.2 k.size⟩), Below.quiet h.below k h.below.size⟩
theorem Read.nil (w : World) : Read w w (.slice none 0 0) [] := ⟨World.ownsRow_nil _ _ _ _, by simp, Below.refl _ _⟩
theorem Read.row {w0 w : World} {v : Value} {ps : List (Value × Pure.Opt)} (h : Read w0 w v ps) : ORow w (fun b => w0.heap.size ≤ b) v ps :=
 ⟨(Row.of_own h.own).mono (fun b hb => y0c h.own b hb), fun p hp => (h.rows p hp).mono (fun _ hb => hb.1)⟩
theorem Read.form {w0 w : World} {v : Value} {ps : List (Value × Pure.Opt)} (h : Read w0 w v ps) : ∃ A c, v = .slice A ps.length c := y0b h.own
theorem Read.fresh {w0 w w' : World} {v d : Value} {qs : List (Value × Pure.Opt)} {n : Nat} {xs : List Value} (h : Read w0 w v qs) (hd : Row w' (fun b => w.heap.size ≤ b) 1 d n xs) :
  Row w' (fun b => w0.heap.size ≤ b ∧ v.ownBlock ≠ some b ∧ b < w'.heap.size) 1 d n xs := by
 obtain ⟨h1, h0, A, c, h2, h3, h4, h5⟩ := hd
 refine ⟨h1, h0, A, c, h2, h3, h4, fun hn => ?_⟩
 obtain ⟨b, off, e, f, g⟩ := h5 hn
 have hl : 0 < xs.length := by rw [h1]; omega
 have hlt := y0n (g 0 _ (List.getElem?_eq_getElem hl))
 exact ⟨b, off, e, ⟨by have := h.below.size; omega, fun e => by have := y0i h.own b e; omega, hlt⟩, g⟩
section
variable {w0 w : World} {o : Oper} {a : Act} {Q : Exit → Act → World → Prop}
theorem y5m {K : Act → World → Prop} (s x : Operand) (ho : o.op = .call { callee := .builtin .append, args := #[s, x], argTypes := #[23, 23] })
  (v : Value) (qs : List (Value × Pure.Opt)) (A3 : Option Addr) (c3 : Nat) (t : Int) (D : List UInt8) (hs : a.eval s = v) (hx : a.eval x = .slice (some ⟨w.heap.size, 0, none⟩) 1 1) (hR : Read w0 w v qs) (hq : qs.length ≤ 1000000)
  (hd : Row w (fun b => w0.heap.size ≤ b ∧ v.ownBlock ≠ some b ∧ b < w.heap.size) 1 (.slice A3 D.length c3) D.length (u8s D))
  (h : ∀ A c w', Read w0 w' (.slice A (qs.length + 1) c) (qs ++ [(.slice A3 D.length c3, (t, D))]) → Keeps (fun b => v.ownBlock = some b) w w' → K (a.put o.dst (.slice A (qs.length + 1) c)) w') :
  o.wp Try.prog a (w.alloc (.cells #[.int .i64 t, .slice A3 D.length c3] 40)) K Q := by
 obtain ⟨i0, hi0, hz0, hz1, hz2⟩ := info_parts y1m
 obtain ⟨wb, hwb⟩ : ∃ wb, wb = w.alloc (.cells (y09 [(.slice A3 D.length c3, (t, D))]).toArray 40) := ⟨_, rfl⟩
 have hwb' : w.alloc (.cells #[.int .i64 t, .slice A3 D.length c3] 40) = wb := hwb.symm
 rw [hwb']
 have hkb : Keeps y02 w wb := by rw [hwb]; exact (Keeps.refl _ w).alloc _
 have hbb : Blk wb w.heap.size 40 (y09 [(.slice A3 D.length c3, (t, D))]).toArray := by rw [hwb]; exact Blk.new w _ _
 have hrb : Row wb (fun b => b = w.heap.size) 2 (.slice (some ⟨w.heap.size, 0, none⟩) 1 1) 1 (y09 [(.slice A3 D.length c3, (t, D))]) := by
  have h := Row.block (F := fun b => b = w.heap.size) (n := 1) (c := 1) (size := 2) hbb rfl rfl (by unfold maxLen; omega) (Nat.le_refl _)
  exact h
 have hownb : wb.ownsRow w0.heap.size 40 2 v qs.length (y09 qs) := y0f hR.own hkb (fun _ _ h => h)
 have hBb : Below w0.heap.size w0 wb := Below.quiet hR.below hkb hR.below.size
 have hone : ∀ p ∈ ([(.slice A3 D.length c3, (t, D))] : List (Value × Pure.Opt)), p.1.oneCell' = true := by
  intro p hp
  simp at hp
  subst hp
  rfl
 refine y1c s x _ ho w0.heap.size 40 i0 _ 2 32 Try.underlying23 hi0 hz0 hz1 hz2 rfl (by omega) v _ (y09 qs) hs hownb _ _ 1 (y09 [(.slice A3 D.length c3, (t, D))]) hx hrb (y11 _ hone) (by unfold maxLen; omega) (by omega) hBb.size ?_
 intro v3 w3 hown3 hg3 hat3
 have hcat : y09 qs ++ y09 [(.slice A3 D.length c3, (t, D))] = y09 (qs ++ [(.slice A3 D.length c3, (t, D))]) := by simp [y09]
 rw [hcat] at hown3
 have hkw : Keeps (fun b => v.ownBlock = some b) wb w3 := (Keeps.refl _ wb).grown hg3 (fun k hk _ => hk)
 have hwbs : w.heap.size < wb.heap.size := by rw [hwb]; simp
 have hread : Read w0 w3 v3 (qs ++ [(.slice A3 D.length c3, (t, D))]) := by
  refine ⟨by rw [List.length_append]; exact hown3, fun p hp => ?_, hBb.grown hg3 hBb.size (fun k hk => y0c hownb k hk)⟩
  have hrow : Row w (fun b => w0.heap.size ≤ b ∧ v.ownBlock ≠ some b ∧ b < w.heap.size) 1 p.1 p.2.2.length (u8s p.2.2) := by
   rcases List.mem_append.1 hp with hp | hp
   ·exact hR.rows p hp
   ·simp at hp
    subst hp
    exact hd
  have h1 := (hrow.keeps hkb (fun _ _ h => h)).keeps hkw (fun b hb => hb.2.1)
  refine h1.mono (fun b hb => ⟨hb.1, ?_, by have := hkw.size; omega⟩)
  rcases hat3 with e | e
  ·rw [e]; exact hb.2.1
  ·rw [e]; intro h; injection h with h; omega
 obtain ⟨A4, c4, rfl⟩ := y0b hown3
 refine h A4 c4 w3 hread ?_
 exact (hkb.mono (fun _ h => h.elim)).trans hkw
theorem y0v {ops : Array Oper} {rest : List Oper} (hgd : o.guard = none) (s x : Operand) (ho : o.op = .call { callee := .builtin .append, args := #[s, x], argTypes := #[23, 23] })
  (v : Value) (qs : List (Value × Pure.Opt)) (A3 : Option Addr) (c3 : Nat) (t : Int) (D : List UInt8) (hs : a.eval s = v) (hx : a.eval x = .slice (some ⟨w.heap.size, 0, none⟩) 1 1) (hR : Read w0 w v qs) (hq : qs.length ≤ 1000000)
  (hd : Row w (fun b => w0.heap.size ≤ b ∧ v.ownBlock ≠ some b ∧ b < w.heap.size) 1 (.slice A3 D.length c3) D.length (u8s D))
  (h : ∀ A c w', Read w0 w' (.slice A (qs.length + 1) c) (qs ++ [(.slice A3 D.length c3, (t, D))]) → Keeps (fun b => v.ownBlock = some b) w w' → wpList Try.prog ops Q rest (a.put o.dst (.slice A (qs.length + 1) c)) w') :
  wpList Try.prog ops Q (o :: rest) a (w.alloc (.cells #[.int .i64 t, .slice A3 D.length c3] 40)) :=
 wpList_plain hgd fun _ hK => y5m s x ho v qs A3 c3 t D hs hx hR hq hd fun A c w' h2 h3 => hK _ _ (h A c w' h2 h3)
end
theorem made_read (w : World) (n : Nat) (hn : n ≤ 1000000) : ∃ cs, (Instr.makeSlice 23 (.int .i64 0) (.int .i64 (n : Int))).run Try.prog w = .ok (.slice (some ⟨w.heap.size, 0, none⟩) 0 n) (w.alloc (.cells cs 40)) ∧
  Read w (w.alloc (.cells cs 40)) (.slice (some ⟨w.heap.size, 0, none⟩) 0 n) [] := by
 obtain ⟨i0, hi0, hz0, hz1, hz2⟩ := info_parts y1m
 have hrun := run_make (P := Try.prog) w 23 40 i0 _ Try.underlying23 hi0 hz0 .i64 .i64 0 n (by omega) (by omega) (by rw [hz2]; omega) (by omega)
 rw [hz1, Int.toNat_natCast, show Int.toNat 0 = 0 from rfl] at hrun
 refine ⟨_, hrun, ⟨⟨by simp, .inr ⟨w.heap.size, n, _, rfl, Nat.le_refl _, Blk.new w _ _, by simp, by unfold maxLen; omega, by simp [madeCells], by simp⟩⟩, by simp, ?_⟩⟩
 exact Keeps.to_below ((Keeps.refl _ w).alloc _)
namespace Pure
structure Rule where
 type : Int
 len : Int
 how : Int
 lo : Int
 hi : Int
 want : List UInt8
 need : Bool
def bnum (b : List UInt8) : Nat := b.foldl (fun n x => n * 256 + x.toNat) 0
def wide (x n : Nat) : List UInt8 := (List.range n).map fun i => UInt8.ofNat (x / 256 ^ (n - 1 - i) % 256)
def Rule.numbered (r : Rule) (b : List UInt8) : Prop := 1 ≤ r.len ∧ r.len ≤ 4 ∧ (b.length : Int) = r.len
instance (r : Rule) (b : List UInt8) : Decidable (r.numbered b) := by unfold Rule.numbered; infer_instance
def Rule.fits (r : Rule) (b : List UInt8) : Prop :=
 (r.how = 1 ∧ (r.len < 0 ∨ (b.length : Int) = r.len)) ∨ (r.how = 2 ∧ r.numbered b ∧ r.lo ≤ bnum b ∧ bnum b ≤ r.hi) ∨ (r.how = 3 ∧ b = r.want) ∨ (r.how = 4 ∧ r.numbered b ∧ bnum b &&& r.hi.toNat = bnum b)
instance (r : Rule) (b : List UInt8) : Decidable (r.fits b) := by unfold Rule.fits; infer_instance
def Rule.offers (r : Rule) (b : List UInt8) : Option Opt :=
 if r.how = 2 ∧ 1 ≤ r.len ∧ r.len ≤ 4 then some (r.type, wide (if r.numbered b ∧ (bnum b : Int) < r.lo then r.lo.toNat else r.hi.toNat) r.len.toNat)
 else if r.how = 3 then some (r.type, r.want)
 else if r.how = 4 ∧ 1 ≤ r.len ∧ r.len ≤ 4 then some (r.type, wide (if r.numbered b then bnum b &&& r.hi.toNat else r.hi.toNat) r.len.toNat)
 else none
def ruleOf (rules : List Rule) (t : Int) : Option Rule := rules.find? fun r => decide (r.type = t)
def hasType (l : List Opt) (t : Int) : Bool := l.any fun o => decide (o.1 = t)
inductive Verdict where
 | pass
 | reject
 | offer (o : Opt)
def verdict (rules : List Rule) (rejects : Bool) (before : List Opt) (o : Opt) : Verdict :=
 match ruleOf rules o.1 with
 | none => .reject
 | some r =>
  if hasType before o.1 = true then .reject
  else if r.fits o.2 then .pass
  else match r.offers o.2 with
   | none => .reject
   | some p => if rejects = true then .reject else .offer p
def judgeTo (rules : List Rule) (rejects : Bool) (l : List Opt) : Nat → List Opt × List Opt
 | 0 => ([], [])
 | k + 1 =>
  match l[k]? with
  | none => judgeTo rules rejects l k
  | some o =>
   match verdict rules rejects (l.take k) o with
   | .pass => judgeTo rules rejects l k
   | .reject => ((judgeTo rules rejects l k).1 ++ [o], (judgeTo rules rejects l k).2)
   | .offer p => ((judgeTo rules rejects l k).1, (judgeTo rules rejects l k).2 ++ [p])
def needTo (rules : List Rule) (l nak : List Opt) : Nat → List Opt
 | 0 => nak
 | k + 1 =>
  match rules[k]? with
  | none => needTo rules l nak k
  | some r =>
   if r.need = false ∨ hasType l r.type = true ∨ hasType (needTo rules l nak k) r.type = true then needTo rules l nak k
   else match ruleOf rules r.type with
    | none => needTo rules l nak k
    | some f => if f.need = false then needTo rules l nak k else match f.offers [] with
     | none => needTo rules l nak k
     | some o => needTo rules l nak k ++ [o]
def judge (rules : List Rule) (l : List Opt) (rejects : Bool) : Nat × List Opt :=
 if (judgeTo rules rejects l l.length).1 ≠ [] then (4, (judgeTo rules rejects l l.length).1)
 else
  let nak := if rejects = true then (judgeTo rules rejects l l.length).2 else needTo rules l (judgeTo rules rejects l l.length).2 rules.length
  if nak ≠ [] then (3, nak) else (2, l)
def needy (rules : List Rule) (t : Int) : Bool := match ruleOf rules t with | some r => r.need | none => false
def stays (rules : List Rule) (rej : List Opt) (o : Opt) : Bool := !rej.any (fun p => decide (o = p)) || needy rules o.1
def left (rules : List Rule) (ask rej : List Opt) : List Opt := ask.filter (stays rules rej)
structure Rule.May (r : Rule) : Prop where
 t0 : 0 ≤ r.type
 t1 : r.type ≤ 255
 want : r.want.length ≤ 253
 nums : 1 ≤ r.len → r.len ≤ 4 → 0 ≤ r.lo ∧ r.lo ≤ r.hi ∧ r.hi < (256 : Int) ^ r.len.toNat
theorem bnum_snoc (b : List UInt8) (x : UInt8) : bnum (b ++ [x]) = bnum b * 256 + x.toNat := by simp [bnum, List.foldl_append]
theorem bnum_from (b : List UInt8) : ∀ n : Nat, b.foldl (fun n x => n * 256 + x.toNat) n < (n + 1) * 256 ^ b.length := by
 induction b with
 | nil => intro n; simp
 | cons x b ih =>
  intro n
  rw [List.foldl_cons, List.length_cons, Nat.pow_succ]
  have hx := x.toNat_lt
  have h1 := ih (n * 256 + x.toNat)
  have h2 : (n * 256 + x.toNat + 1) * 256 ^ b.length ≤ ((n + 1) * 256) * 256 ^ b.length := Nat.mul_le_mul_right _ (by omega)
  have h3 : ((n + 1) * 256) * 256 ^ b.length = (n + 1) * (256 ^ b.length * 256) := by rw [Nat.mul_assoc, Nat.mul_comm 256]
  omega
theorem bnum_lt (b : List UInt8) : bnum b < 256 ^ b.length := by have := bnum_from b 0; rw [Nat.zero_add, Nat.one_mul] at this; exact this
theorem bnum_small {b : List UInt8} (h : b.length ≤ 4) : bnum b < 4294967296 :=
 Nat.lt_of_lt_of_le (bnum_lt b) (show 256 ^ b.length ≤ 256 ^ 4 from Nat.pow_le_pow_right (by omega) h)
theorem wide_length (x n : Nat) : (wide x n).length = n := by simp [wide]
end Pure
end Go.Proofs.Ytgphfindolaljaa
