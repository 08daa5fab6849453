/- append to own rows of bytes; rows of bytes that were just made. -/
import Derived.Laws.Tables
import Derived.Laws.CopyOwn
import Derived.Laws.Rows
import Derived.Lib.SlBytesConst
import Derived.Lib.AppendZerosOnto
import Derived.Lib.SliceRun
import Derived.Lib.Walk
import Derived.Laws.BytesString
import Derived.Lib.BufferRead
import Derived.Test.YtnkepeiedmdnoaaDoorC1
namespace Go.Proofs.YtnkepeiedmdnoaaDoor
set_option maxRecDepth 100000
set_option maxHeartbeats 4000000
open _root_.Go.Lib renaming hid → xhd
open Go.RowKit
theorem y1g (w : World) (l : List UInt8) (cs : Array Value) (n : Nat) (hc : cs = (u8s l).toArray) (hn : n = l.length) (hl : l.length ≤ 100000) : Row (w.alloc (.cells cs 5)) (fun b => b = w.heap.size) 1 (.slice (some ⟨w.heap.size, 0, none⟩) n n) l.length (u8s l) := by
 subst hc hn
 exact Row.block (Blk.new w 5 (u8s l).toArray) rfl (by simp) (by unfold maxLen; omega) (Nat.le_refl _)
section
variable {w : World} {ops : Array Oper} {rest : List Oper} {o : Oper} {a : Act} {Q : Exit → Act → World → Prop}
end
theorem Row.strong {w : World} {F : Nat → Prop} {v : Value} {n : Nat} {xs : List Value} (h : Row w F 1 v n xs) : Row w (fun b => F b ∧ b < w.heap.size) 1 v n xs := by
 obtain ⟨h1, h0, A, c, h2, h3, h4, h5⟩ := h
 refine ⟨h1, h0, A, c, h2, h3, h4, fun hn => ?_⟩
 obtain ⟨b, off, e, f, g⟩ := h5 hn
 refine ⟨b, off, e, ⟨f, ?_⟩, g⟩
 exact y0c (g 0 xs[0] (List.getElem?_eq_getElem (by omega)))
theorem Row.one {w : World} {F : Nat → Prop} {v : Value} {n : Nat} {xs : List Value} (h : Row w F 1 v n xs) : v.oneCell' = true := by
 obtain ⟨_, _, A, c, rfl, _⟩ := h
 rfl
section
variable {P : Program} {ops : Array Oper} {Q : Exit → Act → World → Prop} {md : Region.Mode} {S : World → Prop} {z : Nat}
def y2k (P : Program) (md : Region.Mode) (ops : Array Oper) (Q : Exit → Act → World → Prop) (S : World → Prop) (z : Nat) : Nat → Array Bool → Act → World → Prop
 | 0, listed, a, w => Region.ready md ops listed = [] ∧ Q .normal a w
 | fuel + 1, listed, a, w =>
  (Region.ready md ops listed = [] → Q .normal a w) ∧
  ∀ i ∈ Region.ready md ops listed, wpOp P ops Q i (fun a' w' => (i ≠ z → S w') ∧ y2k P md ops Q S z fuel (listed.setIfInBounds i true) a' w') a w
theorem y40 : ∀ (fuel : Nat) (listed : Array Bool) (a : Act) (w : World), y2k P md ops Q S z fuel listed a w → wpAny P md ops Q fuel listed a w
 | 0, _, _, _, h => h
 | fuel + 1, _, _, _, h => ⟨h.1, fun i hi => wpOp_mono (fun a' w' h' => y40 fuel _ a' w' h'.2) (h.2 i hi)⟩
inductive Waits (md : Region.Mode) (ops : Array Oper) (z : Nat) : Nat → Prop
 | one {o : Oper} {e : Edge} (ho : ops[z]? = some o) (he : e ∈ o.after) (hb : Region.binds md e = true) : Waits md ops z e.on
 | more {k : Nat} {o : Oper} {e : Edge} (h : Waits md ops z k) (ho : ops[k]? = some o) (he : e ∈ o.after) (hb : Region.binds md e = true) : Waits md ops z e.on
def y43 (md : Region.Mode) : List Edge → Array Bool → Array Bool
 | [], r => r
 | e :: es, r => y43 md es (if Region.binds md e = true then r.setIfInBounds e.on true else r)
def y3k (md : Region.Mode) (ops : Array Oper) : Nat → Array Bool → Array Bool
 | 0, r => r
 | k + 1, r => y3k md ops k (if r.getD k false = true then (match ops[k]? with | some o => y43 md o.after.toList r | none => r) else r)
def y34 (md : Region.Mode) (ops : Array Oper) (z i : Nat) : Bool := (y3k md ops ops.size ((Array.replicate ops.size false).setIfInBounds z true)).getD i false && i != z
theorem y39 {r : Array Bool} {i j : Nat} (h : (r.setIfInBounds i true).getD j false = true) : j = i ∨ r.getD j false = true := by
 by_cases hij : i = j
 ·exact .inl hij.symm
 ·rw [getD_set_ne false hij] at h
  exact .inr h
theorem y3e {z : Nat} (hz : ∀ e, Region.binds md e = true → (∃ k o, ops[k]? = some o ∧ e ∈ o.after ∧ (k = z ∨ Waits md ops z k)) → Waits md ops z e.on) :
  ∀ (es : List Edge) (r : Array Bool), (∀ e ∈ es, ∃ k o, ops[k]? = some o ∧ e ∈ o.after ∧ (k = z ∨ Waits md ops z k)) → (∀ j, r.getD j false = true → j = z ∨ Waits md ops z j) →
   ∀ j, (y43 md es r).getD j false = true → j = z ∨ Waits md ops z j
 | [], _, _, hr => hr
 | e :: es, r, he, hr => by
  refine y3e hz es _ (fun e' h' => he e' (by simp [h'])) (fun j hj => ?_)
  split at hj
  ·rename_i hb
   rcases y39 hj with rfl | hj
   ·exact .inr (hz e hb (he e (by simp)))
   ·exact hr j hj
  ·exact hr j hj
theorem y4a {z : Nat} (e : Edge) (hb : Region.binds md e = true) (h : ∃ k o, ops[k]? = some o ∧ e ∈ o.after ∧ (k = z ∨ Waits md ops z k)) : Waits md ops z e.on := by
 obtain ⟨k, o, ho, he, rfl | hk⟩ := h
 ·exact .one ho he hb
 ·exact .more hk ho he hb
theorem y36 {z : Nat} : ∀ (k : Nat) (r : Array Bool), (∀ j, r.getD j false = true → j = z ∨ Waits md ops z j) → ∀ j, (y3k md ops k r).getD j false = true → j = z ∨ Waits md ops z j
 | 0, _, hr => hr
 | k + 1, r, hr => by
  refine y36 k _ (fun j hj => ?_)
  split at hj
  ·rename_i hk
   cases ho : ops[k]? with
   | none => rw [ho] at hj; exact hr j hj
   | some o =>
    rw [ho] at hj
    exact y3e (fun e hb h => y4a e hb h) o.after.toList r (fun e he => ⟨k, o, ho, by simpa using he, hr k hk⟩) hr j hj
  ·exact hr j hj
theorem rep_false (n j : Nat) : (Array.replicate n false).getD j false = false := by
 rw [Array.getD_eq_getD_getElem?, Array.getElem?_replicate]
 split <;> rfl
theorem y3q {z i : Nat} (h : y34 md ops z i = true) : Waits md ops z i := by
 unfold y34 at h
 simp only [Bool.and_eq_true, bne_iff_ne, ne_eq] at h
 rcases y36 (md := md) (ops := ops) (z := z) ops.size _ (fun j hj => by
  rcases y39 hj with rfl | hj
  ·exact .inl rfl
  ·rw [rep_false] at hj
   cases hj) i h.1 with h1 | h1
 ·exact absurd h1 h.2
 ·exact h1
def y2x (md : Region.Mode) (ops : Array Oper) (listed : Array Bool) : Prop :=
 ∀ (j : Nat) (o : Oper), ops[j]? = some o → listed.getD j false = true → ∀ e ∈ o.after, Region.binds md e = true → listed.getD e.on false = true
def y41 (md : Region.Mode) (ops : Array Oper) (listed : Array Bool) : Bool :=
 (List.range ops.size).all fun j => !listed.getD j false || match ops[j]? with
  | none => true
  | some o => o.after.all fun e => !Region.binds md e || listed.getD e.on false
theorem closed_of {listed : Array Bool} (h : y41 md ops listed = true) : y2x md ops listed := by
 intro j o ho hl e he hb
 simp only [y41, List.all_eq_true, List.mem_range] at h
 have := h j (Array.getElem?_eq_some_iff.1 ho).1
 rw [hl, ho] at this
 simp only [Bool.not_true, Bool.false_or] at this
 have := Array.all_eq_true'.1 this e he
 rw [hb] at this
 simpa using this
theorem y2x.set {listed : Array Bool} (h : y2x md ops listed) {i : Nat} (hr : i ∈ Region.ready md ops listed) : y2x md ops (listed.setIfInBounds i true) := by
 intro j o ho hl e he hb
 by_cases hij : i = j
 ·subst hij
  obtain ⟨_, o', ho', hall⟩ := mem_ready.1 hr
  rw [ho] at ho'
  injection ho' with ho'
  subst ho'
  exact getD_set_true (hall e he hb)
 ·rw [getD_set_ne false hij] at hl
  exact getD_set_true (h j o ho hl e he hb)
theorem y4g {listed : Array Bool} (hc : y2x md ops listed) {z i : Nat} (h : Waits md ops z i) (hz : ∀ o, ops[z]? = some o → ∀ e ∈ o.after, Region.binds md e = true → listed.getD e.on false = true) : listed.getD i false = true := by
 induction h with
 | one ho he hb => exact hz _ ho _ he hb
 | more _ ho he hb ih => exact hc _ _ ho ih _ he hb
theorem y3m {i : Nat} {listed : Array Bool} (hc : y2x md ops listed) (h : y34 md ops z i = true) (hi : listed.getD i true = false) (hs : i < listed.size) : z ∉ Region.ready md ops listed := by
 intro hz
 obtain ⟨_, o, ho, hall⟩ := mem_ready.1 hz
 have h1 := y4g hc (y3q h) (fun o' ho' e he hb => by
  rw [ho] at ho'
  injection ho' with ho'
  subst ho'
  exact hall e he hb)
 simp [hs] at h1 hi
 rw [hi] at h1
 cases h1
theorem y4h {i : Nat} {oi : Oper} {v : Value} (hi : ops[i]? = some oi) (hsel : ∀ (j : Nat) (o : Oper) cs b, ops[j]? = some o → o.op ≠ .select cs b)
  (hQ : ∀ c a w, Q (.panic c) (a.put oi.dst v) w → Q (.panic c) a w) (hz : y34 md ops z i = true) :
  ∀ (fuel : Nat) (listed : Array Bool) (a : Act) (w : World),
   (∀ j oj, ops[j]? = some oj → j ≠ i → listed.getD j true = false → (∀ e ∈ oj.after, Region.binds md e = true → e.on ≠ i) → oi.apart ops oj = true) →
   y2x md ops listed → i < listed.size → i ∈ Region.ready md ops listed → YieldsIf P ops S oi v a → S w →
   y2k P md ops Q S z fuel (listed.setIfInBounds i true) (a.put oi.dst v) w → y2k P md ops Q S z (fuel + 1) listed a w := by
 intro fuel
 induction fuel with
 | zero =>
  intro listed a w _ _ _ hr hy hS H
  refine ⟨fun h => (by rw [h] at hr; cases hr), fun j hj => ?_⟩
  by_cases hji : j = i
  ·subst hji; exact hy.wpOp hi hS ⟨fun _ => hS, H⟩
  ·have := ready_mono hj hji
   rw [H.1] at this
   cases this
 | succ fuel ih =>
  intro listed a w hfree hcl hsz hr hy hS H
  refine ⟨fun h => (by rw [h] at hr; cases hr), fun j hj => ?_⟩
  by_cases hji : j = i
  ·subst hji; exact hy.wpOp hi hS ⟨fun _ => hS, H⟩
  ·have hjz : j ≠ z := fun e => y3m hcl hz (mem_ready.1 hr).1 hsz (e ▸ hj)
   have h1 := H.2 j (ready_mono hj hji)
   obtain ⟨hjun, oj, hoj, hall⟩ := mem_ready.1 hj
   have hnot : ∀ e ∈ oj.after, Region.binds md e = true → e.on ≠ i := fun e he hb heq => by
    have h1 := hall e he hb
    have h0 := (mem_ready.1 hr).1
    rw [heq] at h1
    simp [hsz] at h0 h1
    rw [h0] at h1
    cases h1
   have h2 := wpOp_putIf hoj (hfree j oj hoj hji hjun hnot) (fun cs b => hsel i oi cs b hi) (fun cs b => hsel j oj cs b hoj) hQ hy h1
   have hfree' : ∀ k ok, ops[k]? = some ok → k ≠ i → (listed.setIfInBounds j true).getD k true = false →
     (∀ e ∈ ok.after, Region.binds md e = true → e.on ≠ i) → oi.apart ops ok = true := fun k ok hk hki hun hno => by
    refine hfree k ok hk hki ?_ hno
    by_cases hjk : j = k
    ·subst hjk; exact hjun
    ·rw [getD_set_ne true hjk] at hun; exact hun
   refine wpOp_mono (fun a' w' h3 => ⟨fun _ => h3.2.1 hjz, ih (listed.setIfInBounds j true) a' w' hfree' (hcl.set hj) (by simpa using hsz) (ready_mono hr (Ne.symm hji)) h3.1 (h3.2.1 hjz) ?_⟩) h2
   rw [Array.setIfInBounds_comm _ _ hji]
   exact h3.2.2
theorem y01 {i : Nat} {oi : Oper} {v : Value} {fuel : Nat} {listed : Array Bool} {a : Act} {w : World} (hi : ops[i]? = some oi)
  (hc : (Region.noSelect ops && Region.free md ops listed i && (Region.ready md ops listed).contains i && y34 md ops z i && decide (i < listed.size) && y41 md ops listed) = true)
  (hQ : ∀ c a w, Q (.panic c) (a.put oi.dst v) w → Q (.panic c) a w) (hy : YieldsIf P ops S oi v a) (hS : S w)
  (h : y2k P md ops Q S z fuel (listed.setIfInBounds i true) (a.put oi.dst v) w) : y2k P md ops Q S z (fuel + 1) listed a w := by
 simp only [Bool.and_eq_true, decide_eq_true_eq] at hc
 obtain ⟨⟨⟨⟨⟨h1, h2⟩, h3⟩, h4⟩, h5⟩, h6⟩ := hc
 exact y4h hi (Region.noSelect_spec h1) hQ h4 fuel listed a w (Region.free_spec hi h2) (closed_of h6) h5 (by simpa using h3) hy hS h
theorem y0a {i : Nat} {o : Oper} {fuel : Nat} {listed : Array Bool} {a : Act} {w : World} (hr : Region.ready md ops listed = [i]) (ho : ops[i]? = some o)
  (h : ∀ K' : Act → World → Prop, Shut (∀ a w, (i ≠ z → S w) → y2k P md ops Q S z fuel (listed.setIfInBounds i true) a w → K' a w) →
   if Region.wanted o (yielded ops a.tmps) = true then Oper.wp P o a w K' Q else K' (a.put o.dst undef) w) : y2k P md ops Q S z (fuel + 1) listed a w :=
 ⟨fun h0 => (by rw [h0] at hr; cases hr), fun j hj => by
  rw [hr] at hj
  obtain rfl : j = i := by simpa using hj
  exact wpOp_step ho (fun K' hK => h K' (fun a w hS hW => hK a w ⟨hS, hW⟩))⟩
def marks (size : Nat) : Nat → Array Bool
 | 0 => Array.replicate size false
 | n + 1 => (marks size n).setIfInBounds n true
theorem y0w {listed : Array Bool} {a : Act} {w : World} (hr : Region.ready md ops listed = []) (h : Q .normal a w) :
  ∀ fuel, y2k P md ops Q S z fuel listed a w
 | 0 => ⟨hr, h⟩
 | _ + 1 => ⟨fun _ => h, by rw [hr]; simp⟩
theorem y0x {id : Nat} {a : Act} {w : World} (S : World → Prop) (z size : Nat) (hsz : ops.size = size) (hm : P.follows .mixedOrders = true) (hS : S w.drew)
  (h : Go.RowKit.Hid (S w.drew) → y2k P .any ops Q S z size (marks size 0) a w.drew) : (Code.region id ops true).wp P Q a w :=
 wp_region_any hm (by rw [hsz]; exact y40 size _ _ _ (h hS))
end
abbrev pktV (p : Pure.Pkt) (v : Value) : Value := .agg #[.int .i64 p.code, .int .i64 p.id, v]
theorem Keeps.rowSet {S : Nat → Prop} {a w : World} {g : Nat} (h : Keeps S a w) (hp : g < a.heap.size → S g) (cs : Array Value) : Keeps S a (w.setRow g cs) :=
 ⟨h.os, h.tape, h.output, by simpa using h.size, fun k hk hs => (setRow_other w g k cs (fun e => hs (e ▸ hp (e ▸ hk)))).trans (h.block k hk hs)⟩
theorem Blk.rowSet {w : World} {g : Nat} {t : TypeId} {old : Array Value} (h : Blk w g t old) (cs : Array Value) : Blk (w.setRow g cs) g t cs := setRow_heap w g old cs t (0, 0) h
theorem y49 {P : Program} {o : Oper} {a : Act} {w : World} (ty : TypeId) (x : Operand) (ho : o.op = .load ty x)
  (g : Nat) (hx : a.eval x = .pointer (some ⟨g, 0, none⟩)) (t : TypeId) (cs : Array Value) (fr : Nat × Nat) (d : TypeDesc) (hg : w.heap[g]? = some (.cells cs t fr))
  (hu : P.underlying ty = some d) (hd : (match d with | .struct _ | .array _ _ => true | _ => false) = true) (hi : (P.info? ty).map (·.size) = some cs.size) :
  (execOp a.eval o).run P w = .ok (.value (.agg cs)) w := by
 unfold execOp
 simp only [ho, hx, Instr.loadAt, Instr.sureAddr, Sem.run_bind, Sem.run_pure, Result.andThen_ok, run_loadVar_row w g t ty cs fr d hg hu hd hi]
def y0m (l : List Pure.Opt) : Prop := l.length ≤ 60 ∧ ∀ o ∈ l, o.2.length ≤ 300
instance (l : List Pure.Opt) : Decidable (y0m l) := by unfold y0m; infer_instance
open Go.RowKit Go.Extern.Stop Go.Stop Go.Extern
noncomputable abbrev asVal (b : Nat) : Array Value := #[.pointer (some ⟨hB, 75, none⟩), .pointer (some ⟨b, 0, none⟩), .int .u64 150]
noncomputable abbrev asW2 (w : World) (t : Addr) : World := (w.alloc (.cells #[.pointer (some t)] 75)).alloc (.cells (asVal w.heap.size) 84)
noncomputable abbrev asW3 (w : World) (t : Addr) : World := (asW2 w t).alloc (.cells (asVal w.heap.size) 84)
noncomputable abbrev asW4 (w : World) (t e : Addr) : World := (asW3 w t).alloc (.cells #[.pointer (some e)] 73)
theorem as_below4 (w : World) (t e : Addr) : Below w.heap.size w (asW4 w t e) :=
 ((((Below.refl w.heap.size w).alloc (Nat.le_refl _) _).alloc (by simp) _).alloc (by simp; omega) _).alloc (by simp; omega) _
theorem as_fault (e t : Addr) (old : Value) (w : World) (hg : y0e w) (ht : w.cell? t = some old) (hf : w.frozen? t = false) :
  Calls Tryd.prog 36 #[.iface 73 (.pointer (some e)), .iface 75 (.pointer (some t))] w fun ev w' => ev = .returned (.bool true) ∧
   w' = (asW4 w t e).setCell t (.pointer (some e)) := by
 have h1 := @run_callFunc_extern Tryd.prog 40 _ (fun args => ReflectliteValue.unpack (args.getD 0 (.tuple #[]))) Tryd.func40 (by kernel_rfl) (by kernel_rfl) (by kernel_rfl) (by kernel_rfl)
 have h2 := @run_callFunc_extern Tryd.prog 41 _ (ReflectliteValue.methodAny (ReflectliteValue.valueError "reflectlite.Value.Type" 0) (fun t _ _ _ => ReflectliteType.toType t)) Tryd.func41 (by kernel_rfl) (by kernel_rfl) (by kernel_rfl) (by kernel_rfl)
 have h3 := @run_callFunc_extern Tryd.prog 42 _ (ReflectliteValue.method (ReflectliteValue.valueError "reflectlite.Value.IsNil" 0) ReflectliteValue.isNil) Tryd.func42 (by kernel_rfl) (by kernel_rfl) (by kernel_rfl) (by kernel_rfl)
 have h4 := @run_callFunc_extern Tryd.prog 64 _ (ReflectliteType.abiMethod fun t => do pure (.int .u8 (← Rtype.kind t))) Tryd.func64 (by kernel_rfl) (by kernel_rfl) (by kernel_rfl) (by kernel_rfl)
 have h5 := @run_callFunc_extern Tryd.prog 76 _ (ReflectliteType.method ReflectliteType.elem) Tryd.func76 (by kernel_rfl) (by kernel_rfl) (by kernel_rfl) (by kernel_rfl)
 have h6 := @run_callFunc_extern Tryd.prog 77 _ (ReflectliteType.relation "Implements" ReflectliteType.implements_) Tryd.func77 (by kernel_rfl) (by kernel_rfl) (by kernel_rfl) (by kernel_rfl)
 have h7 := @run_callFunc_extern Tryd.prog 46 _ ReflectliteType.typeOf Tryd.func46 (by kernel_rfl) (by kernel_rfl) (by kernel_rfl) (by kernel_rfl)
 have h8 := @run_callFunc_extern Tryd.prog 74 _ (ReflectliteType.relation "AssignableTo" ReflectliteType.assignableTo) Tryd.func74 (by kernel_rfl) (by kernel_rfl) (by kernel_rfl) (by kernel_rfl)
 have h9 := @run_callFunc_extern Tryd.prog 48 _ (ReflectliteValue.method (ReflectliteValue.valueError "reflectlite.Value.Elem" 0) ReflectliteValue.elem) Tryd.func48 (by kernel_rfl) (by kernel_rfl) (by kernel_rfl) (by kernel_rfl)
 have h10 := @run_callFunc_extern Tryd.prog 49 _ ReflectliteValue.set Tryd.func49 (by kernel_rfl) (by kernel_rfl) (by kernel_rfl) (by kernel_rfl)
 have k1 := as_unpackT
 have k2 := as_typeT
 have k3 := as_mKind
 have k4 := as_mElem
 have k5 := as_mImpl
 have k6 := as_mAssign
 have k7 := as_kindT
 have k8 := as_kindE
 have k9 := as_elemT
 have k10 := as_implE
 have k11 := as_typeOfE
 have k12 := as_assignE
 have k13 := as_unpackE
 have hlt := hg.lt
 have htl : t.block < w.heap.size := by
  rcases Nat.lt_or_ge t.block w.heap.size with h | h
  ·exact h
  ·simp [World.cell?, Array.getElem?_eq_none h] at ht
 have g2 : (asW2 w t).cell? ⟨0, 0, none⟩ = some (.iface 99 (.agg #[.pointer (some ⟨hB, 59, none⟩)])) := by
  rw [World.cell?_alloc_lt _ _ ⟨0, 0, none⟩ (by simp <;> omega), World.cell?_alloc_lt _ _ ⟨0, 0, none⟩ hlt]; exact hg
 have n1 := as_isNil ⟨w.heap.size, 0, none⟩ t (asW2 w t) (by simp)
 have n2 := as_elemV ⟨w.heap.size, 0, none⟩ t (asW3 w t) (by rw [World.cell?_alloc_lt _ _ ⟨w.heap.size, 0, none⟩ (by simp; omega)]; simp)
 have n3 := as_set t ⟨w.heap.size + 1 + 1 + 1, 0, none⟩ e old (asW4 w t e)
  (by rw [World.cell?_alloc_at _ _ _ _ (by simp)]; rfl)
  (by rw [World.cell?_alloc_lt _ _ t (by simp; omega), World.cell?_alloc_lt _ _ t (by simp; omega), World.cell?_alloc_lt _ _ t (by simp; omega), World.cell?_alloc_lt _ _ t htl]; exact ht)
  (by rw [World.frozen?_alloc_old _ _ t (by simp; omega), World.frozen?_alloc_old _ _ t (by simp; omega), World.frozen?_alloc_old _ _ t (by simp; omega), World.frozen?_alloc_old _ _ t (Nat.ne_of_lt htl)]; exact hf)
 clear hg ht hf
 go_enter Tryd.func36, Tryd.ntmps36
 go_wp2
 refine wp_loop_rounds 1 ?_
 rw [rounds_succ]
 go_wp2
 go_ret
 exact ⟨rfl, rfl⟩
def y0s (w : World) (v : Value) (k : Nat) : Prop :=
 (v = .nilIface ∧ k = 0) ∨ (k ≠ 0 ∧ ∃ b, v = .iface 73 (.pointer (some ⟨b, 0, none⟩)) ∧ w.cell? ⟨b, 1, none⟩ = some (.int .i64 k))
theorem y0s.keeps {S : Nat → Prop} {w w' : World} {v : Value} {k : Nat} (h : y0s w v k) (hk : Keeps S w w') (hS : ∀ b, ¬ S b) : y0s w' v k := by
 rcases h with h | ⟨h1, b, h2, h3⟩
 ·exact .inl h
 ·exact .inr ⟨h1, b, h2, (World.cell?_of_block (w := w) (a := ⟨b, 1, none⟩) (hk.block b (y0c h3) (hS b))).trans h3⟩
theorem y1w (s : ByteArray) (k : Nat) (w : World) (hk : k ≠ 0) : Calls Tryd.prog 34 #[.string s, .int .i64 k] w fun e w' => ∃ v, e = .returned v ∧ y0s w' v k ∧ Below w.heap.size w w' := by
 go_enter Tryd.func34, Tryd.ntmps34
 go_wp2
 go_ret
 exact ⟨_, rfl, .inr ⟨hk, w.heap.size, rfl, by simp⟩, (Below.refl _ _).alloc (Nat.le_refl _) _⟩
theorem y2i (v : Value) (k : Nat) (w : World) (hg : y0e w) (h : y0s w v k) : Calls Tryd.prog 27 #[v] w fun e w' => e = .returned (.int .i64 k) ∧ Below w.heap.size w w' := by
 have B1 := xhd ((Below.refl w.heap.size w).alloc (Nat.le_refl _) (.cells #[.pointer none] 73))
 rcases h with ⟨rfl, rfl⟩ | ⟨h1, b, rfl, h3⟩
 ·have HA := xhd as_nil
  clear hg
  go_enter Tryd.func27, Tryd.ntmps27
  go_wp2_with fail
  refine (HA.out _ _).mono ?_
  rintro e w1 ⟨rfl, rfl⟩
  go_wp2
  go_ret
  exact ⟨rfl, B1.out⟩
 ·have hb := y0c h3
  have hg1 : y0e (w.alloc (.cells #[.pointer none] 73)) := hg.below ((Below.refl w.heap.size w).alloc (Nat.le_refl _) _)
  have HA := xhd (as_fault ⟨b, 0, none⟩ ⟨w.heap.size, 0, none⟩ (.pointer none) _ hg1 (by simp) (by simp))
  have k4 := as_below4 (w.alloc (.cells #[.pointer none] 73)) ⟨w.heap.size, 0, none⟩ ⟨b, 0, none⟩
  obtain ⟨W, hW⟩ : ∃ W, W = asW4 (w.alloc (.cells #[.pointer none] 73)) ⟨w.heap.size, 0, none⟩ ⟨b, 0, none⟩ := ⟨_, rfl⟩
  rw [← hW] at HA k4
  have hsz : (w.alloc (.cells #[.pointer none] 73)).heap.size = w.heap.size + 1 := by simp
  have hblk : Blk W w.heap.size 73 #[.pointer none] := (Blk.new w 73 #[.pointer none]).below k4 (by omega)
  have c0 : (W.setCell ⟨w.heap.size, 0, none⟩ (.pointer (some ⟨b, 0, none⟩))).cell? ⟨w.heap.size, 0, none⟩ = some (.pointer (some ⟨b, 0, none⟩)) := by
   rw [(hblk.set 0 _).cell]; rfl
  have hk : Keeps y03 w (W.setCell ⟨w.heap.size, 0, none⟩ (.pointer (some ⟨b, 0, none⟩))) :=
   ((Keeps.new ((B1.out).trans (k4.mono (by simp)))).store w.heap.size 0 (fun h => absurd h (by omega)) _)
  have c1 := (World.cell?_of_block (w := w) (a := ⟨b, 1, none⟩) (hk.block b hb (fun h => h))).trans h3
  have K := xhd hk
  clear hg hg1 k4 hW hsz hblk hk h3
  go_enter Tryd.func27, Tryd.ntmps27
  go_wp2_with fail
  refine HA.out.mono ?_
  rintro e w1 ⟨rfl, rfl⟩
  go_wp2
  go_ret
  exact ⟨rfl, K.out.to_below⟩
def cutV (a : Option Addr) (c lo m : Nat) : Value := if c = lo then .slice a m 0 else .slice (a.map (fun x => x.add lo)) m (c - lo)
theorem Row.cutV {w : World} {F : Nat → Prop} {a : Option Addr} {n c : Nat} {bs : List UInt8} (h : Row w F 1 (.slice a n c) n (u8s bs)) (lo m : Nat) (hm : lo + m ≤ n) :
  Row w F 1 (cutV a c lo m) m (u8s ((bs.drop lo).take m)) := by
 have e : u8s ((bs.drop lo).take m) = ((u8s bs).drop lo).take m := by simp
 rw [e]
 unfold Go.Proofs.YtnkepeiedmdnoaaDoor.cutV
 split
 ·rename_i hc
  subst hc
  exact h.cutEnd m hm
 ·exact h.cut1 lo m hm
theorem y09 {P : Program} {fn : Func} {p u : Tmp} {ty : TypeId} (h : fn.results = #[.cell p ty, .tmp u]) (tmps : Array Value) (w : World) (g : Nat) (t : TypeId) (cs : Array Value) (fr : Nat × Nat) (d : TypeDesc)
  (hp : tmps.getD p undef = .pointer (some ⟨g, 0, none⟩)) (hg : w.heap[g]? = some (.cells cs t fr))
  (hu : P.underlying ty = some d) (hd : (match d with | .struct _ | .array _ _ => true | _ => false) = true) (hi : (P.info? ty).map (·.size) = some cs.size) :
  (results fn tmps).run P w = .ok (.tuple #[.agg cs, tmps.getD u undef]) w := by
 have hp' : tmps[p]?.getD undef = .pointer (some ⟨g, 0, none⟩) := by simpa using hp
 simp [results, h, hp', asAddr, run_loadVar_row w g t ty cs fr d hg hu hd hi, Result.andThen]
theorem y0y {w w' : World} {b off : Nat} {u : Value} (h : w.cell? ⟨b, off, none⟩ = some u) (k : Keeps y03 w w') : w'.cell? ⟨b, off, none⟩ = some u :=
 (World.cell?_of_block (w := w) (a := ⟨b, off, none⟩) (k.block b (y0c h) (fun x => x))).trans h
theorem y3v : (Tryd.prog.info? 28).map (·.size) = some 3 := by kernel_rfl
section
variable {w0 wr : World}
theorem sameL {F G : Nat → Prop} {x y : Value} {a b : List UInt8} (B : Below w0.heap.size w0 wr) (hx : Row wr F 1 x a.length (u8s a)) (hy : Row wr G 1 y b.length (u8s b)) :
  Calls Tryd.prog 13 #[x, y] wr fun e w' => e = .returned (.bool (decide (a = b))) ∧ Keeps y03 wr w' ∧ Below w0.heap.size w0 w' :=
 (y33 F G x y a b wr hx hy).mono fun _ _ ⟨he, hK⟩ => ⟨he, hK, Below.quiet B hK B.size⟩
end
def y2z : Prop := ∀ (F : Nat → Prop) (v : Value) (p : Pure.Pkt) (w : World), (∀ b, F b → b < w.heap.size) → Row w F 1 v p.data.length (u8s p.data) →
 Calls Tryd.prog 10 #[pktV p v] w fun e w' => ∃ u, e = .returned (.tuple #[u, .int .i64 (((Pure.encode p).1 : Nat) : Int)]) ∧ w'.ownsRow w.heap.size 5 1 u (Pure.encode p).2.length (u8s (Pure.encode p).2) ∧ Below w.heap.size w w'
def y2y : Prop := ∀ (F : Nat → Prop) (x : Value) (bs : List UInt8) (w : World), y0e w → (∀ b, F b → b < w.heap.size) → Row w F 1 x bs.length (u8s bs) →
 Calls Tryd.prog 12 #[x] w fun e w' => ∃ u, e = .returned (.tuple #[pktV (Pure.decode bs).2 u, .int .i64 (((Pure.decode bs).1 : Nat) : Int)]) ∧ Row w' (fun b => w.heap.size ≤ b) 1 u (Pure.decode bs).2.data.length (u8s (Pure.decode bs).2.data) ∧ Below w.heap.size w w'
theorem y4i : Pure.encode ⟨1, 7, [9]⟩ = (0, [1, 7, 0, 5, 9]) := by decide +kernel
theorem y4c : (Pure.decode [1, 7, 0, 5, 9]).1 = 0 ∧ (Pure.decode [1, 7, 0, 5, 9]).2.code = 1 ∧ (Pure.decode [1, 7, 0, 5, 9]).2.id = 7 ∧ (Pure.decode [1, 7, 0, 5, 9]).2.data = [9] := by decide +kernel
theorem y1i (HEn : y2z) (HDe : y2y) (w : World) (hg : y0e w) : Calls Tryd.prog 9 #[] w fun e w' => e = .returned (.bool true) ∧ Below w.heap.size w w' := by
 have hE := HEn (fun b => b = w.heap.size) (.slice (some ⟨w.heap.size, 0, none⟩) 1 1) ⟨1, 7, [9]⟩ (w.alloc (.cells #[.int .u8 9] 5)) (fun b hb => by have hb : b = w.heap.size := hb; simp [hb]) (y1g w [9] #[.int .u8 9] 1 rfl rfl (by simp))
 rw [y4i] at hE
 have HE := xhd hE
 have HG := xhd hg
 clear hg
 have HB0 := xhd (show Below w.heap.size w (w.alloc (.cells #[.int .u8 9] 5)) from (Below.refl _ w).alloc (Nat.le_refl _) _)
 clear hE
 go_enter Tryd.func9, Tryd.ntmps9
 go_wp2_with fail
 refine HE.out.mono ?_
 rintro e w1 ⟨u, rfl, hu, hb1⟩
 have hu : w1.ownsRow (w.alloc (.cells #[.int .u8 9] 5)).heap.size 5 1 u 5 (u8s [1, 7, 0, 5, 9]) := hu
 have HB1 := xhd (HB0.out.trans (hb1.mono HB0.out.size))
 have hD := HDe (fun b => u.ownBlock = some b) u [1, 7, 0, 5, 9] w1 (HG.out.below HB1.out) (fun b hb => y07 hu b hb) (Row.of_own hu)
 obtain ⟨q1, q2, q3, q4⟩ := y4c
 unfold pktV at hD
 rw [q1, q2, q3, q4] at hD
 have HD := xhd hD
 obtain ⟨A, c, rfl⟩ := y06 hu
 clear hu hb1 hD HE HB0 q1 q2 q3 q4
 go_wp2_with fail
 refine HD.out.mono ?_
 rintro e w2 ⟨v, rfl, hv, hb2⟩
 obtain ⟨A2, c2, rfl, _⟩ := hv.form
 have HB2 := xhd (HB1.out.trans (hb2.mono HB1.out.size))
 clear hv hb2 HD HB1
 go_wp2
 go_ret
 exact ⟨rfl, HB2.out.alloc HB2.out.size _⟩
theorem y3n (n : Nat) : (Builtin.zeroCells (Value.cells (.int .u8 0)) n).size = n := by
 simp [Builtin.zeroCells, Value.cells]
theorem grow_nil (n : Nat) (w : World) (hn : n ≤ 140737488355328) :
  Calls Tryd.prog 33 #[.slice none 0 0, .int .i64 n] w fun e w' => ∃ u, e = .returned u ∧ w'.ownsRow w.heap.size 5 1 u 0 [] ∧ Below w.heap.size w w' := by
 by_cases h0 : n = 0
 ·subst h0
  go_enter Tryd.func33, Tryd.ntmps33
  go_wp2
  go_ret
  exact ⟨_, rfl, ⟨by simp, .inl ⟨rfl, rfl⟩⟩, Below.refl _ _⟩
 ·obtain ⟨i0, hi0, hz0, hz1, hz2⟩ := info_parts y1c
  have hpos : (n : Int) > 0 := by omega
  have hrz : ∀ ty, (Builtin.append_ #[23, 3] ty #[.slice none 0 0, .int .i64 n]).run Tryd.prog w =
    .ok (.slice (some ⟨w.heap.size, 0, none⟩) n (grownCap w n 0 5)) (w.drew.alloc (.cells (([] : List Value).toArray ++ Builtin.zeroCells (Value.cells (.int .u8 0)) n ++ Builtin.zeroCells (Value.cells (.int .u8 0)) (grownCap w n 0 5 - n)) 5)) := fun ty => by
   have h := Lib.run_append_grow_zeros w 23 3 ty 5 i0 (.int .u8 0) .i64 .i64 Tryd.underlying23 Tryd.underlying3 hi0 hz0 none 0 0 []
    (run_firstCells_none w.drew i0.size 0 0 0) n (by omega) (by omega) (by omega) (by omega) (by rw [hz2]; omega) (by
     rw [hz2]
     have : Builtin.nextslicecap (0 + n) 0 = n := by unfold Builtin.nextslicecap; rw [if_pos (by omega)]; omega
     rw [this]; omega)
   simpa only [Nat.zero_add] using h
  have hGn : n ≤ grownCap w n 0 5 := grownCap_ge w _ _ _
  have hGm := grownCap_le_maxLen w n 0 5 (by unfold maxLen; omega)
  obtain ⟨G, hG⟩ : ∃ G, G = grownCap w n 0 5 := ⟨_, rfl⟩
  rw [← hG] at hrz hGn hGm
  obtain ⟨Z, hZ⟩ : ∃ Z, Z = (([] : List Value).toArray ++ Builtin.zeroCells (Value.cells (.int .u8 0)) n ++ Builtin.zeroCells (Value.cells (.int .u8 0)) (G - n)) := ⟨_, rfl⟩
  rw [← hZ] at hrz
  have hZs : Z.size = G := by rw [hZ, Array.size_append, Array.size_append, y3n, y3n]; simp; omega
  have HZ := xhd hZs
  have HGM := xhd hGm
  have hG63 : G ≤ 9223372036854775807 := by unfold maxLen at hGm; omega
  clear hi0 hz0 hz1 hz2 hG hZ hZs hGm
  go_enter Tryd.func33, Tryd.ntmps33
  go_wp2_with (at_builtin; refine Lib.wpList_append_run _ rfl _ _ _ _ rfl _ _ rfl rfl _ _ (hrz _) ?_)
  go_ret
  refine ⟨_, rfl, ⟨by simp, .inr ⟨w.heap.size, G, Z, rfl, Nat.le_refl _, ?_, by omega, HGM.out, by rw [HZ.out]; simp, by simp⟩⟩, ?_⟩
  ·exact Blk.new w.drew 5 Z
  ·exact (Below.drewN (Below.refl _ w) 1).alloc (Nat.le_refl _) _
structure Parts (w : World) (g : Nat) (F : Nat → Prop) (ps : List (Value × List UInt8)) : Prop where
 blk : Blk w g 23 (ps.map Prod.fst).toArray
 rows : ∀ p ∈ ps, Row w F 1 p.1 p.2.length (u8s p.2)
theorem Parts.keeps {S : Nat → Prop} {w w' : World} {g : Nat} {F : Nat → Prop} {ps : List (Value × List UInt8)} (h : Parts w g F ps) (k : Keeps S w w') (hg : ¬ S g) (hs : ∀ b, F b → ¬ S b) : Parts w' g F ps :=
 ⟨h.blk.keeps k hg, fun p hp => (h.rows p hp).keeps k hs⟩
def joined (ps : List (Value × List UInt8)) : List UInt8 := ps.flatMap Prod.snd
theorem y3r (ps : List (Value × List UInt8)) (k : Nat) (p : Value × List UInt8) (h : ps[k]? = some p) : joined (ps.take (k + 1)) = joined (ps.take k) ++ p.2 := by
 unfold joined
 rw [List.take_add_one, h, List.flatMap_append]
 simp
theorem y35 (ps : List (Value × List UInt8)) (k : Nat) : (joined (ps.take k)).length ≤ (joined ps).length := by
 have : ps = ps.take k ++ ps.drop k := (List.take_append_drop k ps).symm
 unfold joined
 conv => rhs; rw [this]
 rw [List.flatMap_append, List.length_append]
 omega
theorem concat_any (F : Nat → Prop) (g : Nat) (ps : List (Value × List UInt8)) (w : World) (h : Parts w g F ps) (hF : ∀ b, F b → b < w.heap.size) (hp : ps.length ≤ 1000) (hl : (joined ps).length ≤ 140737488355328) :
  Calls Tryd.prog 25 #[.slice (some ⟨g, 0, none⟩) ps.length ps.length] w fun e w' => ∃ u, e = .returned u ∧ w'.ownsRow w.heap.size 5 1 u (joined ps).length (u8s (joined ps)) ∧ Below w.heap.size w w' := by
 have H := xhd h
 have HF := xhd hF
 have hcells : ∀ k p, ps[k]? = some p → w.cell? ⟨g, k, none⟩ = some p.1 := fun k p hk => by
  rw [h.blk.cell]; simp [hk]
 have HC := xhd hcells
 have hgl := h.blk.lt
 clear h hF hcells
 go_enter Tryd.func25, Tryd.ntmps25
 go_wp2_with fail
 go_loop [3, 11] (fun s i => ∃ k : Nat, k ≤ ps.length ∧ i = .int .i64 k ∧ s = .int .i64 (joined (ps.take k)).length) (fun _ i => ps.length - (intOf i).toNat)
 case atStart => exact ⟨0, by omega, rfl, rfl⟩
 case round =>
  obtain ⟨k, hk, rfl, rfl⟩ := hrel
  have hle := y35 ps k
  by_cases hlt : k < ps.length
  ·obtain ⟨p, hpk⟩ : ∃ p, ps[k]? = some p := ⟨_, List.getElem?_eq_getElem hlt⟩
   have c0 := HC.out k p hpk
   obtain ⟨Ap, cp, hv, _⟩ := (H.out.rows p (List.mem_of_getElem? hpk)).form
   rw [hv] at c0
   have hle2 := y35 ps (k + 1)
   have hj := y3r ps k p hpk
   have hjl := congrArg List.length hj
   rw [List.length_append] at hjl
   have HJ := xhd hjl
   have hi0 : (0 : Int) ≤ (k : Int) := by omega
   have hi1 : (k : Int) < (ps.length : Int) := by omega
   obtain ⟨J, hJ⟩ : ∃ J, J = (joined (ps.take k)).length := ⟨_, rfl⟩
   rw [← hJ] at hle HJ ⊢
   have hJ2 : J + p.2.length ≤ 140737488355328 := by have := HJ.out; omega
   have hneg : ¬ ((J : Int) + p.2.length < 0) := by omega
   clear hv hpk hj hjl hJ hle2
   go_wp2
   go_round
   case rel => exact ⟨k + 1, by omega, by go_num, by rw [HJ.out]; go_num⟩
   case measure => simp [intOf]; omega
  ·have hk' : k = ps.length := by omega
   have hj : joined (ps.take k) = joined ps := by rw [hk', List.take_length]
   rw [hj]
   clear hj hk' hle
   go_wp2_with fail
   refine (grow_nil (joined ps).length w hl).mono ?_
   rintro e w1 ⟨u1, rfl, hown1, hb1⟩
   have O1 := xhd hown1
   have B1 := xhd hb1
   clear hown1 hb1
   go_wp2_with fail
   obtain ⟨i0, hi0, hz0, hz1, hz2⟩ := info_parts y1c
   have I := xhd (And.intro hi0 (And.intro hz0 (And.intro hz1 hz2)))
   clear hi0 hz0 hz1 hz2
   go_loopw [6, 27] (fun u i wr => ∃ k : Nat, k ≤ ps.length ∧ i = .int .i64 k ∧ wr.ownsRow w.heap.size 5 1 u (joined (ps.take k)).length (u8s (joined (ps.take k))) ∧ Below w.heap.size w wr) (fun _ i _ => ps.length - (intOf i).toNat)
   case atStart => exact ⟨0, by omega, rfl, O1.out, B1.out⟩
   case round =>
    obtain ⟨k, hk, rfl, hown, hb⟩ := hrel
    have O := xhd hown
    have B := xhd hb
    have hle := y35 ps k
    clear hown hb O1 B1
    by_cases hlt : k < ps.length
    ·obtain ⟨p, hpk⟩ : ∃ p, ps[k]? = some p := ⟨_, List.getElem?_eq_getElem hlt⟩
     have c0 := (B.out.cell (p := ⟨g, k, none⟩) hgl).trans (HC.out k p hpk)
     have hrow := (H.out.rows p (List.mem_of_getElem? hpk)).keeps (Keeps.new B.out) (fun _ _ h => h)
     obtain ⟨Ap, cp, hv, _⟩ := hrow.form
     rw [hv] at c0 hrow
     have HRow := xhd hrow
     have hle2 := y35 ps (k + 1)
     have hj := y3r ps k p hpk
     have hi0 : (0 : Int) ≤ (k : Int) := by omega
     have hi1 : (k : Int) < (ps.length : Int) := by omega
     have HJ := xhd hj
     have hJ2 : (joined (ps.take k)).length + p.2.length ≤ 140737488355328 := by have := congrArg List.length hj; rw [List.length_append] at this; omega
     obtain ⟨J, hJ⟩ : ∃ J, J = joined (ps.take k) := ⟨_, rfl⟩
     rw [← hJ] at O HJ hJ2
     have HJJ := xhd hJ
     clear hv hpk hj hle2 hrow hJ hle
     go_wp2_with (at_builtin; refine y0i ?_)
     unfold Hid
     obtain ⟨hi0', hz0, hz1, hz2⟩ := I.out
     refine y0b rfl (.tmp 31) (.tmp 32) _ rfl w.heap.size 5 i0 _ 1 1 Tryd.underlying23 hi0' hz0 hz1 hz2 rfl (by omega) u6 J.length (u8s J)
      rfl O.out F _ p.2.length (u8s p.2) rfl HRow.out (y1y p.2) (by simp only [maxLen]; omega) (by omega) (by have := B.out.size; omega) ?_
     intro v3 w3 hown3 hg3 hat3
     have hown3' : w3.ownsRow w.heap.size 5 1 v3 (joined (ps.take (k + 1))).length (u8s (joined (ps.take (k + 1)))) := by
      rw [HJ.out, List.length_append, show u8s (J ++ p.2) = u8s J ++ u8s p.2 by simp]
      exact hown3
     have hb3 := Below.grown B.out hg3 B.out.size (fun q hq => (y04 O.out q hq))
     have O3 := xhd hown3'
     have B3 := xhd hb3
     clear hown3 hown3' hg3 hat3 hb3 hi0' hz0 hz1 hz2 c0
     go_wp2
     go_roundw
     case rel => exact ⟨k + 1, by omega, by go_num, O3.out, B3.out⟩
     case measure => simp [intOf]; omega
    ·have hk' : k = ps.length := by omega
     have hj : joined (ps.take k) = joined ps := by rw [hk', List.take_length]
     rw [hj] at O
     clear hj hk' hle
     go_wp2
     go_ret
     exact ⟨u6, rfl, O.out, B.out⟩
theorem y2f (n : Int) (w : World) : Calls Tryd.prog 24 #[.int .i64 n] w fun e w' => e = .returned (.bool (decide (0 ≤ n ∧ n ≤ 255))) ∧ w = w' := by
 by_cases h : 0 ≤ n
 ·have d0 : decide (0 ≤ n) = true := decide_eq_true h
  have hd : decide (0 ≤ n ∧ n ≤ 255) = decide (n ≤ 255) := by simp [h]
  rw [hd]
  clear h hd
  go_enter Tryd.func24, Tryd.ntmps24
  go_wp2
  go_ret
  exact ⟨rfl, rfl⟩
 ·have d0 : decide (0 ≤ n) = false := decide_eq_false h
  have hd : decide (0 ≤ n ∧ n ≤ 255) = false := by simp [h]
  rw [hd]
  clear h hd
  go_enter Tryd.func24, Tryd.ntmps24
  go_wp2
  go_ret
  exact ⟨rfl, rfl⟩
theorem encode_any (F : Nat → Prop) (v : Value) (p : Pure.Pkt) (w : World) (hF : ∀ b, F b → b < w.heap.size) (hr : Row w F 1 v p.data.length (u8s p.data)) :
  Calls Tryd.prog 10 #[pktV p v] w fun e w' => ∃ u, e = .returned (.tuple #[u, .int .i64 (((Pure.encode p).1 : Nat) : Int)]) ∧ w'.ownsRow w.heap.size 5 1 u (Pure.encode p).2.length (u8s (Pure.encode p).2) ∧ Below w.heap.size w w' := by
 obtain ⟨A, cA, rfl, hc⟩ := hr.form
 have hml := hr.2.1
 unfold maxLen at hml
 have HR := xhd hr
 have HF := xhd hF
 clear hr hF
 obtain ⟨c, i, l⟩ := p
 dsimp only at *
 have HBc := xhd (fun w => y2f c w)
 have HBi := xhd (fun w => y2f i w)
 obtain ⟨g, hg⟩ : ∃ g, g = w.heap.size := ⟨_, rfl⟩
 go_enter Tryd.func10, Tryd.ntmps10
 go_upto_region 1 with fail
 rw [← hg]
 generalize hw1 : w.alloc _ = w1
 have HB := xhd (show Blk w1 g 28 #[.int .i64 c, .int .i64 i, .slice A l.length cA] by rw [← hw1, hg]; exact Blk.new w _ _)
 have HK := xhd (show Keeps y03 w w1 by rw [← hw1]; exact (Keeps.refl _ w).alloc _)
 have HZ := xhd (show w1.heap.size = g + 1 by rw [← hw1, hg]; simp)
 have HG := xhd hg
 clear hw1 hg
 have c0 : w1.cell? ⟨g, 0, none⟩ = some (.int .i64 c) := by rw [HB.out.cell]; rfl
 have c1 : w1.cell? ⟨g, 1, none⟩ = some (.int .i64 i) := by rw [HB.out.cell]; rfl
 have c2 : w1.cell? ⟨g, 2, none⟩ = some (.slice A l.length cA) := by rw [HB.out.cell]; rfl
 obtain ⟨od, hod⟩ : ∃ b, b = decide (Pure.Pkt.odd ⟨c, i, l⟩) := ⟨_, rfl⟩
 obtain ⟨bc, hbc⟩ : ∃ b, b = decide (0 ≤ c ∧ c ≤ 255) := ⟨_, rfl⟩
 obtain ⟨bi, hbi⟩ : ∃ b, b = decide (0 ≤ i ∧ i ≤ 255) := ⟨_, rfl⟩
 have hob : od = (!bc || !bi) := by
  have ho : Pure.Pkt.odd ⟨c, i, l⟩ ↔ (c < 0 ∨ 255 < c ∨ i < 0 ∨ 255 < i) := Iff.rfl
  rw [hod, hbc, hbi, Bool.eq_iff_iff]
  simp only [ho, decide_eq_true_eq, Bool.or_eq_true, Bool.not_eq_true', decide_eq_false_iff_not]
  omega
 rw [← hbc] at HBc
 rw [← hbi] at HBi
 have HOD := xhd hod
 clear hod hbc hbi
 go_cut [6] (fun v wx => v = .bool od ∧ w1 = wx)
 case first =>
  have HOB := xhd hob
  clear hob
  cases bc
  ·go_wp2_with fail
   refine (HBc.out _).mono ?_
   rintro e w2 ⟨rfl, rfl⟩
   go_wp2
   go_meet
   exact ⟨by rw [HOB.out]; rfl, rfl⟩
  ·go_wp2_with fail
   refine (HBc.out _).mono ?_
   rintro e w2 ⟨rfl, rfl⟩
   go_wp2_with fail
   refine (HBi.out _).mono ?_
   rintro e w2 ⟨rfl, rfl⟩
   go_wp2
   go_meet
   exact ⟨by rw [HOB.out]; rfl, rfl⟩
 case rest =>
  obtain ⟨rfl, rfl⟩ := hcut
  clear hob HBc HBi
  cases od
  ·have ho : ¬ Pure.Pkt.odd ⟨c, i, l⟩ := of_decide_eq_false HOD.out.symm
   have hci : 0 ≤ c ∧ c ≤ 255 ∧ 0 ≤ i ∧ i ≤ 255 := by unfold Pure.Pkt.odd at ho; dsimp only at ho; omega
   by_cases hl : 1496 < l.length
   ·have he := Pure.encode_long ho hl
    have HE := xhd he
    have d0 : decide ((1496 : Int) < (l.length : Int)) = true := decide_eq_true (by omega)
    clear he ho
    go_wp2
    go_ret2
    exact ⟨_, by rw [HE.out]; rfl, by rw [HE.out]; exact World.ownsRow_nil _ _ _ _, HK.out.to_below⟩
   ·have he := Pure.encode_ok ho hl
    have d0 : decide ((1496 : Int) < (l.length : Int)) = false := decide_eq_false (by omega)
    obtain ⟨n, hn⟩ : ∃ n, n = l.length + 4 := ⟨_, rfl⟩
    have en : (4 : Int) + (l.length : Int) = (n : Int) := by omega
    obtain ⟨x1, hx1⟩ : ∃ x, x = UInt8.ofNat c.toNat := ⟨_, rfl⟩
    obtain ⟨x2, hx2⟩ : ∃ x, x = UInt8.ofNat i.toNat := ⟨_, rfl⟩
    obtain ⟨x3, hx3⟩ : ∃ x, x = UInt8.ofNat (n / 256) := ⟨_, rfl⟩
    obtain ⟨x4, hx4⟩ : ∃ x, x = UInt8.ofNat (n % 256) := ⟨_, rfl⟩
    have hby : Pure.Pkt.bytes ⟨c, i, l⟩ = [x1, x2, x3, x4] ++ l := by rw [hx1, hx2, hx3, hx4, hn]; rfl
    rw [hby] at he
    have f1 : c = (x1.toNat : Int) := by rw [hx1, UInt8.toNat_ofNat']; omega
    have f2 : i = (x2.toNat : Int) := by rw [hx2, UInt8.toNat_ofNat']; omega
    have f3 : (n : Int) / 256 = (x3.toNat : Int) := by rw [hx3, UInt8.toNat_ofNat']; omega
    have f4 : (n : Int) % 256 = (x4.toNat : Int) := by rw [hx4, UInt8.toNat_ofNat']; omega
    have hn2 : n ≤ 1500 := by omega
    subst f1 f2
    have HE := xhd he
    have hx1l := x1.toNat_lt
    have hx2l := x2.toNat_lt
    have HLL := xhd (show ([x1, x2, x3, x4] ++ l).length ≤ 1500 by simp; omega)
    clear he ho hby hx1 hx2 hx3 hx4 hn hci
    go_upto_region 7 with fail
    obtain ⟨q, hq⟩ : ∃ q, q = w1.heap.size := ⟨_, rfl⟩
    rw [← hq]
    generalize hw2 : w1.alloc _ = w2
    have hbw : w2.heap.size = q + 1 := by rw [← hw2, hq]; simp
    have hk2 : Keeps y03 w1 w2 := by rw [← hw2]; exact (Keeps.refl _ w1).alloc _
    have hrh : Row w2 (fun b => b < w2.heap.size) 1 (.slice (some ⟨q, 0, none⟩) 4 4) ([x1, x2, x3, x4] : List UInt8).length (u8s [x1, x2, x3, x4]) := by
     have h := y1g w1 [x1, x2, x3, x4] #[.int .u8 x1.toNat, .int .u8 x2.toNat, .int .u8 x3.toNat, .int .u8 x4.toNat] 4 rfl rfl (by simp)
     rw [hw2, ← hq] at h
     exact h.mono (fun b hb => by omega)
    have hrl : Row w2 (fun b => b < w2.heap.size) 1 (.slice A l.length cA) l.length (u8s l) := ((HR.out.keeps HK.out (fun _ _ h => h)).keeps hk2 (fun _ _ h => h)).mono (fun b hb => by have := HF.out b hb; have := HK.out.size; have := hk2.size; omega)
    have hk3 := (Keeps.refl y03 w2).alloc (.cells #[.slice (some ⟨q, 0, none⟩) 4 4, .slice A l.length cA] 23)
    have hparts : Parts (w2.alloc (.cells #[.slice (some ⟨q, 0, none⟩) 4 4, .slice A l.length cA] 23)) w2.heap.size (fun b => b < w2.heap.size) [(.slice (some ⟨q, 0, none⟩) 4 4, [x1, x2, x3, x4]), (.slice A l.length cA, l)] := by
     refine ⟨Blk.new w2 _ _, fun p hp => ?_⟩
     simp only [List.mem_cons, List.not_mem_nil, or_false] at hp
     rcases hp with rfl | rfl
     ·exact hrh.keeps hk3 (fun _ _ h => h)
     ·exact hrl.keeps hk3 (fun _ _ h => h)
    have c2' := y0y c2 hk2
    have HP := xhd hparts
    have HJ := xhd (show joined [((.slice (some ⟨q, 0, none⟩) 4 4 : Value), [x1, x2, x3, x4]), (.slice A l.length cA, l)] = [x1, x2, x3, x4] ++ l by simp [joined])
    have HK3 := xhd ((HK.out.trans hk2).trans hk3)
    have HW2 := xhd (HK.out.trans hk2).size
    clear hw2 hk2 hrh hrl hparts hk3 c0 c1 c2 hq hbw f3 f4 en hn2
    go_wp2_with fail
    refine (concat_any (fun b => b < w2.heap.size) w2.heap.size [(.slice (some ⟨q, 0, none⟩) 4 4, [x1, x2, x3, x4]), (.slice A l.length cA, l)] _ HP.out (fun b hb => by simp; omega) (by simp) (by rw [HJ.out]; have := HLL.out; omega)).mono ?_
    rintro e w4 ⟨u2, rfl, hown, hb4⟩
    rw [HJ.out] at hown
    have HO := xhd (y1e (base' := w.heap.size) hown (by have := HW2.out; simp; omega))
    have HB4 := xhd (Below.quiet HK3.out.to_below (Keeps.new hb4) HK3.out.size)
    clear hown hb4
    go_wp2
    go_ret2
    exact ⟨u2, by rw [HE.out]; rfl, by rw [HE.out]; exact HO.out, HB4.out⟩
  ·have ho : Pure.Pkt.odd ⟨c, i, l⟩ := of_decide_eq_true HOD.out.symm
   have HE := xhd (Pure.encode_odd ho)
   clear ho
   go_wp2
   go_ret2
   exact ⟨_, by rw [HE.out]; rfl, by rw [HE.out]; exact World.ownsRow_nil _ _ _ _, HK.out.to_below⟩
theorem y2e (F : Nat → Prop) (x : Value) (n : Nat) (l : List UInt8) (w : World) (hr : Row w F 1 x n (u8s l)) (hn : n ≤ 140737488355328) :
  Calls Tryd.prog 38 #[x] w fun e w' => ∃ v, e = .returned v ∧ w'.ownsRow w.heap.size 5 1 v n (u8s l) ∧ Below w.heap.size w w' := by
 obtain ⟨i0, hi0, hz0, hz1, hz2⟩ := info_parts y1c
 have hr' := hr
 obtain ⟨hl, hm, A, c, rfl, hc, hA, hcell⟩ := hr
 rcases A with _ | ad
 ·obtain rfl := hA rfl
  have hl0 : u8s l = [] := List.eq_nil_of_length_eq_zero (by simpa using hl)
  clear hcell hA hl
  have hq := fun (W : World) => Lib.run_eql_slice_nil (P := Tryd.prog) W 23 5 none 0 c 0 0 Tryd.underlying23
  go_enter Tryd.func38, Tryd.ntmps38
  go_wp2
  go_ret
  refine ⟨_, rfl, ⟨by rw [hl0]; rfl, .inl ⟨rfl, rfl⟩⟩, Below.refl _ _⟩
 ·have HL := xhd hl
  have hbw : Row (w.alloc (.cells #[] 5)) F 1 (.slice (some ad) n c) n (u8s l) :=
   hr'.cellsOf fun b off u _ hu => (World.cell?_alloc_lt w _ ⟨b, off, none⟩ (y0c hu)).trans hu
  clear hl hcell hA hr'
  have hq := fun (W : World) => Lib.run_eql_slice_nil (P := Tryd.prog) W 23 5 (some ad) n c 0 0 Tryd.underlying23
  go_enter Tryd.func38, Tryd.ntmps38
  go_wp2_with (at_builtin; refine y0i ?_)
  unfold Hid
  refine y0b rfl (.tmp 5) (.tmp 6) _ rfl w.heap.size 5 i0 _ 1 1 Tryd.underlying23 hi0 hz0 hz1 hz2 rfl (by omega) (.slice (some ⟨w.heap.size, 0, none⟩) 0 0) 0 []
   rfl (y3j _ _ _ _ (Nat.le_refl _)) F _ n (u8s l) rfl hbw (y1y l) (by omega) (by omega) (by simp) ?_
  intro v1 w1 hown1 hg1 hat1
  go_wp2
  go_ret
  refine ⟨v1, rfl, by simpa using hown1, ((Below.refl _ _).alloc (Nat.le_refl _) _).grown hg1 (by simp) ?_⟩
  intro k hk
  simp [Value.ownBlock] at hk
  omega
def Rd (w : World) (F : Nat → Prop) (g : Nat) (l : List UInt8) : Prop := ∃ v, Blk w g 57 #[v] ∧ Row w F 1 v l.length (u8s l)
theorem Rd.keeps {S F : Nat → Prop} {w w' : World} {g : Nat} {l : List UInt8} (h : Rd w F g l) (k : Keeps S w w') (hg : ¬ S g) (hs : ∀ b, F b → ¬ S b) : Rd w' F g l := by
 obtain ⟨v, hb, hr⟩ := h
 exact ⟨v, hb.keeps k hg, hr.keeps k hs⟩
theorem y3z (F : Nat → Prop) (g n : Nat) (l : List UInt8) (w : World) (hrd : Rd w F g l) (h : l.length < n) (_ : n ≤ 100000) :
  Calls Tryd.prog 44 #[.pointer (some ⟨g, 0, none⟩), .int .i64 n] w fun e w' => ∃ u, e = .returned (.tuple #[.slice none 0 0, u]) ∧ y0s w' u 2 ∧ Keeps y03 w w' := by
 obtain ⟨v, hb, hr⟩ := hrd
 obtain ⟨A, c, rfl, hc⟩ := hr.form
 have hm := hr.2.1
 unfold maxLen at hm
 have c0 : w.cell? ⟨g, 0, none⟩ = some (.slice A l.length c) := by rw [hb.cell]; rfl
 have d0 : decide (l.length < n) = true := decide_eq_true h
 have HO := xhd (fun s => y1w s 2 w (by omega))
 clear hb hr h
 go_enter Tryd.func44, Tryd.ntmps44
 go_wp2_with fail
 refine (HO.out _).mono ?_
 rintro e w1 ⟨u, rfl, hu, hb1⟩
 have HU := xhd hu
 have HB1 := xhd (Keeps.new hb1)
 clear hu hb1 HO c0
 go_wp2
 go_ret2
 exact ⟨u, rfl, HU.out, HB1.out⟩
theorem take_ok (F : Nat → Prop) (g n : Nat) (l : List UInt8) (w : World) (hrd : Rd w F g l) (hF : ∀ b, F b → b ≠ g) (h : n ≤ l.length) :
  Calls Tryd.prog 44 #[.pointer (some ⟨g, 0, none⟩), .int .i64 n] w fun e w' => ∃ v, e = .returned (.tuple #[v, .nilIface]) ∧ Row w' F 1 v n (u8s (l.take n)) ∧ Rd w' F g (l.drop n) ∧ Keeps (only g) w w' := by
 obtain ⟨v, hb, hr⟩ := hrd
 obtain ⟨A, c, rfl, hc⟩ := hr.form
 have hm := hr.2.1
 unfold maxLen at hm
 have c0 : w.cell? ⟨g, 0, none⟩ = some (.slice A l.length c) := by rw [hb.cell]; rfl
 have f0 := hb.frozen 0
 have d0 : decide (l.length < n) = false := decide_eq_false (by omega)
 have q1 : (n : Int) ≤ (l.length : Int) := by omega
 have q2 : (n : Int) ≤ (c : Int) := by omega
 have q3 : n ≤ c := by omega
 have HR := xhd hr
 have HB := xhd hb
 have HF := xhd hF
 clear hb hr hF
 go_enter Tryd.func44, Tryd.ntmps44
 go_wp2_with fail
 all_goals
  go_ret2
  have hk := (Keeps.refl (only g) w).store g 0 (fun _ => rfl)
  have ht := HR.out.take1 n (by omega)
  have hcut := HR.out.cutV n (l.length - n) (by omega)
  rw [List.take_of_length_le (by simp)] at hcut
  unfold cutV at hcut
  by_cases hcn : c = n
  ·rw [if_pos hcn] at hcut
   subst hcn
   refine ⟨_, rfl, ht.keeps (hk _) HF.out, ⟨_, HB.out.set 0 _, ?_⟩, hk _⟩
   rw [List.length_drop]
   first | exact hcut.keeps (hk _) HF.out | exact absurd rfl h
  ·rw [if_neg hcn] at hcut
   refine ⟨_, rfl, ?_, ⟨_, HB.out.set 0 _, ?_⟩, hk _⟩
   ·first | exact ht.keeps (hk _) HF.out | exact absurd h hcn
   ·rw [List.length_drop]
    first | exact hcut.keeps (hk _) HF.out | exact absurd h hcn
namespace Pure
def num (l : List UInt8) : Nat := l.foldl (fun n x => n * 256 + x.toNat) 0
theorem num_snoc (l : List UInt8) (x : UInt8) : num (l ++ [x]) = num l * 256 + x.toNat := by simp [num]
theorem num_lt : ∀ (l : List UInt8), l.length ≤ 2 → num l < 65536
 | [], _ => by decide
 | [a], _ => by have := a.toNat_lt; simp [num]; omega
 | [a, b], _ => by have := a.toNat_lt; have := b.toNat_lt; simp [num]; omega
 | _ :: _ :: _ :: _, h => by simp at h
def told (size len : Nat) (l : List UInt8) : Nat := num ((l.take size).drop (size - len))
def nextErr (size len : Nat) (l : List UInt8) : Nat := if l.length < size then 2 else if told size len l < size then 4 else if l.length < told size len l then 2 else 0
end Pure
theorem pnum_any (F : Nat → Prop) (x : Value) (n : Nat) (l : List UInt8) (w : World) (hr : Row w F 1 x n (u8s l)) (hl : l.length ≤ 2) :
  Calls Tryd.prog 45 #[x] w fun e w' => e = .returned (.int .i64 (Pure.num l : Nat)) ∧ w = w' := by
 obtain ⟨A, c, rfl, hc⟩ := hr.form
 have hn : n = l.length := by have := hr.1; simp at this; omega
 subst hn
 have HR := xhd hr
 have HT := xhd (fun (k : Nat) (h : k ≤ l.length) => Pure.num_lt (l.take k) (by rw [List.length_take]; omega))
 clear hr
 go_enter Tryd.func45, Tryd.ntmps45
 go_wp2_with fail
 go_loopw [3, 8] (fun v i wr => ∃ k : Nat, k ≤ l.length ∧ i = .int .i64 (k : Int) ∧ v = .int .i64 (Pure.num (l.take k) : Nat) ∧ wr = w) (fun _ i _ => l.length - (intOf i).toNat)
 case atStart => exact ⟨0, by omega, rfl, rfl, rfl⟩
 case round =>
  obtain ⟨k, hk, rfl, rfl, rfl⟩ := hrel
  by_cases hkl : k < l.length
  ·have i0 : (0 : Int) ≤ (k : Int) := by omega
   have i1 : (k : Int) < (l.length : Int) := by omega
   obtain ⟨b, off, rfl, _, hcx⟩ := HR.out.cellAt (by omega)
   have b0 := hcx k _ (y10 l k hkl)
   have hx := (l.getD k 0).toNat_lt
   have hN := HT.out k hk
   have hsn : Pure.num (l.take (k + 1)) = Pure.num (l.take k) * 256 + (l.getD k 0).toNat := by
    rw [List.take_succ_eq_append_getElem hkl, Pure.num_snoc]
    simp [List.getD_eq_getElem?_getD, hkl]
   have hM := HT.out (k + 1) (by omega)
   obtain ⟨N, hN'⟩ : ∃ N, N = Pure.num (l.take k) := ⟨_, rfl⟩
   obtain ⟨M, hM'⟩ : ∃ N, N = Pure.num (l.take (k + 1)) := ⟨_, rfl⟩
   obtain ⟨X, hX⟩ : ∃ N, N = (l.getD k 0).toNat := ⟨_, rfl⟩
   rw [← hN', ← hM', ← hX] at hsn
   rw [← hN'] at hN ⊢
   rw [← hM'] at hM
   rw [← hX] at b0 hx
   have hN4 : N < 256 := by omega
   have eor : bits .or .i64 ((N : Int) * 256) (X : Int) = (M : Int) := by
    have h := y3w (N * 256) X (by omega) (by omega)
    rw [show N * 256 ||| X = M by rw [hsn, show (256 : Nat) = 2 ^ 8 by rfl, ← Nat.shiftLeft_eq, Nat.shiftLeft_add_eq_or_of_lt (show X < 2 ^ 8 by omega)]] at h
    simpa using h
   have HM := xhd hM'
   clear hcx hN' hM' hX hsn hN hM
   go_wp2_with fail
   go_roundw
   case rel => exact ⟨k + 1, by omega, by go_num, by rw [← HM.out], trivial⟩
   case measure => simp [intOf]; omega
  ·have hkk : k = l.length := by omega
   have HE := xhd (show Pure.num (l.take k) = Pure.num l by rw [hkk, List.take_length])
   subst hkk
   clear hkl hk
   go_wp2
   go_ret
   exact ⟨by rw [← HE.out]; rfl, rfl⟩
end Go.Proofs.YtnkepeiedmdnoaaDoor
