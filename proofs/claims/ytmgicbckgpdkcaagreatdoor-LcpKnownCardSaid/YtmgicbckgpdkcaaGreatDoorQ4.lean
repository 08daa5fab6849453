/- Rows of numbers: append, make; rows of bytes that make lays, known whole. -/
import Derived.Test.YtmgicbckgpdkcaaGreatDoorQ2
import Derived.Deep.RegionHeld3
import Derived.WalkKit
import Derived.Laws.BitsAllLaws
import Derived.Test.YtmgicbckgpdkcaaGreatDoorQ3
namespace Go.Proofs.YtmgicbckgpdkcaaGreatDoor
set_option maxRecDepth 100000
set_option maxHeartbeats 1000000
open Go.RowKit
abbrev ints (l : List Nat) : List Value := l.map fun (b : Nat) => Value.int .i64 (b : Int)
theorem ints_at (l : List Nat) (j : Nat) (h : j < l.length) : (ints l)[j]? = some (.int .i64 ((l.getD j 0 : Nat) : Int)) := by
 rw [List.getElem?_map, List.getElem?_eq_getElem h, List.getD_eq_getElem?_getD, List.getElem?_eq_getElem h]; rfl
theorem int_info : (Tryz.prog.info? 3).map (fun i => (i.zero, i.size, i.bytes)) = some (some (.int .i64 0), 1, 8) := by kernel_rfl
theorem irow_new (w : World) (l : List Nat) (cs : Array Value) (n : Nat) (hc : cs = (ints l).toArray) (hn : n = l.length) (hl : l.length ≤ 100000) : Row (w.alloc (.cells cs 3)) (fun b => b = w.heap.size) 1 (.slice (some ⟨w.heap.size, 0, none⟩) n n) l.length (ints l) := by
 subst hc hn
 exact Row.block (Blk.new w 3 (ints l).toArray) rfl (by simp) (by unfold maxLen; omega) (Nat.le_refl _)
theorem take_snoc {α : Type} (l : List α) (d : α) (k : Nat) (h : k < l.length) : l.take (k + 1) = l.take k ++ [l.getD k d] := by
 rw [List.getD_eq_getElem?_getD, List.getElem?_eq_getElem h]
 exact (List.take_append_getElem h).symm
section
variable {w : World} {ops : Array Oper} {rest : List Oper} {o : Oper} {a : Act} {Q : Exit → Act → World → Prop}
theorem made_bytes (n : Nat) : madeCells (Value.int .u8 0).cells (n * 1) = (u8s (List.replicate n 0)).toArray := by
 rw [show (Value.int .u8 0).cells = #[.int .u8 0] from rfl]
 apply Array.ext_getElem?
 intro i
 simp only [madeCells, Nat.mul_one]
 by_cases h : i < n
 ·simp [h, Nat.mod_one]
 ·simp [h]
theorem wpList_make_u8 (hg : o.guard = none) (l c : Operand) (hop : o.op = Op.makeSlice 29 l c) (n : Nat) (kl kc : IntKind) (hl : a.eval l = .int kl (n : Int)) (hc : a.eval c = .int kc (n : Int)) (hn : n ≤ 1000000)
  (hK : ∀ w', Blk w' w.heap.size 5 (u8s (List.replicate n 0)).toArray → Keeps nobody w w' → w'.heap.size = w.heap.size + 1 → wpList Tryz.prog ops Q rest (a.put o.dst (.slice (some ⟨w.heap.size, 0, none⟩) n n)) w') :
  wpList Tryz.prog ops Q (o :: rest) a w := by
 obtain ⟨i0, hi0, hz0, hz1, hz2⟩ := info_parts u8_info
 refine wpList_plain hg fun K hK' => ?_
 have hrun := run_make (P := Tryz.prog) w 29 5 i0 _ Tryz.underlying29 hi0 hz0 kl kc n n (by omega) (by omega) (by rw [hz2]; omega) (by omega)
 rw [hz1, Int.toNat_natCast, made_bytes] at hrun
 obtain ⟨w', hw'⟩ : ∃ w', w' = w.alloc (.cells (u8s (List.replicate n 0)).toArray 5) := ⟨_, rfl⟩
 rw [← hw'] at hrun
 unfold Oper.wp
 simp [execOp, hop, hl, hc, hrun, Result.andThen]
 exact hK' _ _ (hK w' (by rw [hw']; exact Blk.new w _ _) (by rw [hw']; exact (Keeps.refl _ w).alloc _) (by rw [hw']; simp))
end
section
variable {P : Program} {ops : Array Oper} {Q : Exit → Act → World → Prop} {md : Region.Mode} {S : World → Prop} {z : Nat}
def wpAnyZ (P : Program) (md : Region.Mode) (ops : Array Oper) (Q : Exit → Act → World → Prop) (S : World → Prop) (z : Nat) : Nat → Array Bool → Act → World → Prop
 | 0, listed, a, w => Region.ready md ops listed = [] ∧ Q .normal a w
 | fuel + 1, listed, a, w =>
  (Region.ready md ops listed = [] → Q .normal a w) ∧
  ∀ i ∈ Region.ready md ops listed, wpOp P ops Q i (fun a' w' => (i ≠ z → S w') ∧ wpAnyZ P md ops Q S z fuel (listed.setIfInBounds i true) a' w') a w
theorem wpAny_of_Z : ∀ (fuel : Nat) (listed : Array Bool) (a : Act) (w : World), wpAnyZ P md ops Q S z fuel listed a w → wpAny P md ops Q fuel listed a w
 | 0, _, _, _, h => h
 | fuel + 1, _, _, _, h => ⟨h.1, fun i hi => wpOp_mono (fun a' w' h' => wpAny_of_Z fuel _ a' w' h'.2) (h.2 i hi)⟩
inductive Waits (md : Region.Mode) (ops : Array Oper) (z : Nat) : Nat → Prop
 | one {o : Oper} {e : Edge} (ho : ops[z]? = some o) (he : e ∈ o.after) (hb : Region.binds md e = true) : Waits md ops z e.on
 | more {k : Nat} {o : Oper} {e : Edge} (h : Waits md ops z k) (ho : ops[k]? = some o) (he : e ∈ o.after) (hb : Region.binds md e = true) : Waits md ops z e.on
def markAll (md : Region.Mode) : List Edge → Array Bool → Array Bool
 | [], r => r
 | e :: es, r => markAll md es (if Region.binds md e = true then r.setIfInBounds e.on true else r)
def reachDown (md : Region.Mode) (ops : Array Oper) : Nat → Array Bool → Array Bool
 | 0, r => r
 | k + 1, r => reachDown md ops k (if r.getD k false = true then (match ops[k]? with | some o => markAll md o.after.toList r | none => r) else r)
def waitsFor (md : Region.Mode) (ops : Array Oper) (z i : Nat) : Bool := (reachDown md ops ops.size ((Array.replicate ops.size false).setIfInBounds z true)).getD i false && i != z
theorem getD_set_cases {r : Array Bool} {i j : Nat} (h : (r.setIfInBounds i true).getD j false = true) : j = i ∨ r.getD j false = true := by
 by_cases hij : i = j
 ·exact .inl hij.symm
 ·rw [getD_set_ne false hij] at h
  exact .inr h
theorem markAll_sound {z : Nat} (hz : ∀ e, Region.binds md e = true → (∃ k o, ops[k]? = some o ∧ e ∈ o.after ∧ (k = z ∨ Waits md ops z k)) → Waits md ops z e.on) :
  ∀ (es : List Edge) (r : Array Bool), (∀ e ∈ es, ∃ k o, ops[k]? = some o ∧ e ∈ o.after ∧ (k = z ∨ Waits md ops z k)) → (∀ j, r.getD j false = true → j = z ∨ Waits md ops z j) →
   ∀ j, (markAll md es r).getD j false = true → j = z ∨ Waits md ops z j
 | [], _, _, hr => hr
 | e :: es, r, he, hr => by
  refine markAll_sound hz es _ (fun e' h' => he e' (by simp [h'])) (fun j hj => ?_)
  split at hj
  ·rename_i hb
   rcases getD_set_cases hj with rfl | hj
   ·exact .inr (hz e hb (he e (by simp)))
   ·exact hr j hj
  ·exact hr j hj
theorem waits_of_edge {z : Nat} (e : Edge) (hb : Region.binds md e = true) (h : ∃ k o, ops[k]? = some o ∧ e ∈ o.after ∧ (k = z ∨ Waits md ops z k)) : Waits md ops z e.on := by
 obtain ⟨k, o, ho, he, rfl | hk⟩ := h
 ·exact .one ho he hb
 ·exact .more hk ho he hb
theorem reachDown_sound {z : Nat} : ∀ (k : Nat) (r : Array Bool), (∀ j, r.getD j false = true → j = z ∨ Waits md ops z j) → ∀ j, (reachDown md ops k r).getD j false = true → j = z ∨ Waits md ops z j
 | 0, _, hr => hr
 | k + 1, r, hr => by
  refine reachDown_sound k _ (fun j hj => ?_)
  split at hj
  ·rename_i hk
   cases ho : ops[k]? with
   | none => rw [ho] at hj; exact hr j hj
   | some o =>
    rw [ho] at hj
    exact markAll_sound (fun e hb h => waits_of_edge e hb h) o.after.toList r (fun e he => ⟨k, o, ho, by simpa using he, hr k hk⟩) hr j hj
  ·exact hr j hj
theorem rep_false (n j : Nat) : (Array.replicate n false).getD j false = false := by
 rw [Array.getD_eq_getD_getElem?, Array.getElem?_replicate]
 split <;> rfl
theorem waits_of_waitsFor {z i : Nat} (h : waitsFor md ops z i = true) : Waits md ops z i := by
 unfold waitsFor at h
 simp only [Bool.and_eq_true, bne_iff_ne, ne_eq] at h
 rcases reachDown_sound (md := md) (ops := ops) (z := z) ops.size _ (fun j hj => by
  rcases getD_set_cases hj with rfl | hj
  ·exact .inl rfl
  ·rw [rep_false] at hj
   cases hj) i h.1 with h1 | h1
 ·exact absurd h1 h.2
 ·exact h1
def Closed (md : Region.Mode) (ops : Array Oper) (listed : Array Bool) : Prop :=
 ∀ (j : Nat) (o : Oper), ops[j]? = some o → listed.getD j false = true → ∀ e ∈ o.after, Region.binds md e = true → listed.getD e.on false = true
def closedB (md : Region.Mode) (ops : Array Oper) (listed : Array Bool) : Bool :=
 (List.range ops.size).all fun j => !listed.getD j false || match ops[j]? with
  | none => true
  | some o => o.after.all fun e => !Region.binds md e || listed.getD e.on false
theorem closed_of {listed : Array Bool} (h : closedB md ops listed = true) : Closed md ops listed := by
 intro j o ho hl e he hb
 simp only [closedB, List.all_eq_true, List.mem_range] at h
 have := h j (Array.getElem?_eq_some_iff.1 ho).1
 rw [hl, ho] at this
 simp only [Bool.not_true, Bool.false_or] at this
 have := Array.all_eq_true'.1 this e he
 rw [hb] at this
 simpa using this
theorem Closed.set {listed : Array Bool} (h : Closed md ops listed) {i : Nat} (hr : i ∈ Region.ready md ops listed) : Closed md ops (listed.setIfInBounds i true) := by
 intro j o ho hl e he hb
 by_cases hij : i = j
 ·subst hij
  obtain ⟨_, o', ho', hall⟩ := mem_ready.1 hr
  rw [ho] at ho'
  injection ho' with ho'
  subst ho'
  exact getD_set_true (hall e he hb)
 ·rw [getD_set_ne false hij] at hl
  exact getD_set_true (h j o ho hl e he hb)
theorem waits_listed {listed : Array Bool} (hc : Closed md ops listed) {z i : Nat} (h : Waits md ops z i) (hz : ∀ o, ops[z]? = some o → ∀ e ∈ o.after, Region.binds md e = true → listed.getD e.on false = true) : listed.getD i false = true := by
 induction h with
 | one ho he hb => exact hz _ ho _ he hb
 | more _ ho he hb ih => exact hc _ _ ho ih _ he hb
theorem waitsFor_not_ready {i : Nat} {listed : Array Bool} (hc : Closed md ops listed) (h : waitsFor md ops z i = true) (hi : listed.getD i true = false) (hs : i < listed.size) : z ∉ Region.ready md ops listed := by
 intro hz
 obtain ⟨_, o, ho, hall⟩ := mem_ready.1 hz
 have h1 := waits_listed hc (waits_of_waitsFor h) (fun o' ho' e he hb => by
  rw [ho] at ho'
  injection ho' with ho'
  subst ho'
  exact hall e he hb)
 simp [hs] at h1 hi
 rw [hi] at h1
 cases h1
theorem wpAnyZ_first {i : Nat} {oi : Oper} {v : Value} (hi : ops[i]? = some oi) (hsel : ∀ (j : Nat) (o : Oper) cs b, ops[j]? = some o → o.op ≠ .select cs b)
  (hQ : ∀ c a w, Q (.panic c) (a.put oi.dst v) w → Q (.panic c) a w) (hz : waitsFor md ops z i = true) :
  ∀ (fuel : Nat) (listed : Array Bool) (a : Act) (w : World),
   (∀ j oj, ops[j]? = some oj → j ≠ i → listed.getD j true = false → (∀ e ∈ oj.after, Region.binds md e = true → e.on ≠ i) → oi.apart ops oj = true) →
   Closed md ops listed → i < listed.size → i ∈ Region.ready md ops listed → YieldsIf P ops S oi v a → S w →
   wpAnyZ P md ops Q S z fuel (listed.setIfInBounds i true) (a.put oi.dst v) w → wpAnyZ P md ops Q S z (fuel + 1) listed a w := by
 intro fuel
 induction fuel with
 | zero =>
  intro listed a w _ _ _ hr hy hS H
  refine ⟨fun h => (by rw [h] at hr; cases hr), fun j hj => ?_⟩
  by_cases hji : j = i
  ·subst hji; exact hy.wpOp hi hS ⟨fun _ => hS, H⟩
  ·have := ready_mono hj hji
   rw [H.1] at this
   cases this
 | succ fuel ih =>
  intro listed a w hfree hcl hsz hr hy hS H
  refine ⟨fun h => (by rw [h] at hr; cases hr), fun j hj => ?_⟩
  by_cases hji : j = i
  ·subst hji; exact hy.wpOp hi hS ⟨fun _ => hS, H⟩
  ·have hjz : j ≠ z := fun e => waitsFor_not_ready hcl hz (mem_ready.1 hr).1 hsz (e ▸ hj)
   have h1 := H.2 j (ready_mono hj hji)
   obtain ⟨hjun, oj, hoj, hall⟩ := mem_ready.1 hj
   have hnot : ∀ e ∈ oj.after, Region.binds md e = true → e.on ≠ i := fun e he hb heq => by
    have h1 := hall e he hb
    have h0 := (mem_ready.1 hr).1
    rw [heq] at h1
    simp [hsz] at h0 h1
    rw [h0] at h1
    cases h1
   have h2 := wpOp_putIf hoj (hfree j oj hoj hji hjun hnot) (fun cs b => hsel i oi cs b hi) (fun cs b => hsel j oj cs b hoj) hQ hy h1
   have hfree' : ∀ k ok, ops[k]? = some ok → k ≠ i → (listed.setIfInBounds j true).getD k true = false →
     (∀ e ∈ ok.after, Region.binds md e = true → e.on ≠ i) → oi.apart ops ok = true := fun k ok hk hki hun hno => by
    refine hfree k ok hk hki ?_ hno
    by_cases hjk : j = k
    ·subst hjk; exact hjun
    ·rw [getD_set_ne true hjk] at hun; exact hun
   refine wpOp_mono (fun a' w' h3 => ⟨fun _ => h3.2.1 hjz, ih (listed.setIfInBounds j true) a' w' hfree' (hcl.set hj) (by simpa using hsz) (ready_mono hr (Ne.symm hji)) h3.1 (h3.2.1 hjz) ?_⟩) h2
   rw [Array.setIfInBounds_comm _ _ hji]
   exact h3.2.2
theorem wpAnyZ_take {i : Nat} {oi : Oper} {v : Value} {fuel : Nat} {listed : Array Bool} {a : Act} {w : World} (hi : ops[i]? = some oi)
  (hc : (Region.noSelect ops && Region.free md ops listed i && (Region.ready md ops listed).contains i && waitsFor md ops z i && decide (i < listed.size) && closedB md ops listed) = true)
  (hQ : ∀ c a w, Q (.panic c) (a.put oi.dst v) w → Q (.panic c) a w) (hy : YieldsIf P ops S oi v a) (hS : S w)
  (h : wpAnyZ P md ops Q S z fuel (listed.setIfInBounds i true) (a.put oi.dst v) w) : wpAnyZ P md ops Q S z (fuel + 1) listed a w := by
 simp only [Bool.and_eq_true, decide_eq_true_eq] at hc
 obtain ⟨⟨⟨⟨⟨h1, h2⟩, h3⟩, h4⟩, h5⟩, h6⟩ := hc
 exact wpAnyZ_first hi (Region.noSelect_spec h1) hQ h4 fuel listed a w (Region.free_spec hi h2) (closed_of h6) h5 (by simpa using h3) hy hS h
theorem wpAnyZ_one {i : Nat} {o : Oper} {fuel : Nat} {listed : Array Bool} {a : Act} {w : World} (hr : Region.ready md ops listed = [i]) (ho : ops[i]? = some o)
  (h : ∀ K' : Act → World → Prop, Shut (∀ a w, (i ≠ z → S w) → wpAnyZ P md ops Q S z fuel (listed.setIfInBounds i true) a w → K' a w) →
   if Region.wanted o (yielded ops a.tmps) = true then Oper.wp P o a w K' Q else K' (a.put o.dst undef) w) : wpAnyZ P md ops Q S z (fuel + 1) listed a w :=
 ⟨fun h0 => (by rw [h0] at hr; cases hr), fun j hj => by
  rw [hr] at hj
  obtain rfl : j = i := by simpa using hj
  exact wpOp_step ho (fun K' hK => h K' (fun a w hS hW => hK a w ⟨hS, hW⟩))⟩
def marks (size : Nat) : Nat → Array Bool
 | 0 => Array.replicate size false
 | n + 1 => (marks size n).setIfInBounds n true
theorem wpAnyZ_next {n size : Nat} {oi : Oper} {v : Value} {fuel : Nat} {a : Act} {w : World} (hi : ops[n]? = some oi)
  (hc : (Region.noSelect ops && Region.free md ops (marks size n) n && (Region.ready md ops (marks size n)).contains n && waitsFor md ops z n && decide (n < (marks size n).size) && closedB md ops (marks size n)) = true)
  (hQ : ∀ c a w, Q (.panic c) (a.put oi.dst v) w → Q (.panic c) a w) (hy : YieldsIf P ops S oi v a) (hS : S w)
  (h : wpAnyZ P md ops Q S z fuel (marks size (n + 1)) (a.put oi.dst v) w) : wpAnyZ P md ops Q S z (fuel + 1) (marks size n) a w :=
 wpAnyZ_take hi hc hQ hy hS h
theorem wpAnyZ_step {n size : Nat} {o : Oper} {fuel : Nat} {a : Act} {w : World} (hr : Region.ready md ops (marks size n) = [n]) (ho : ops[n]? = some o)
  (h : ∀ K' : Act → World → Prop, Shut (∀ a w, (n ≠ z → S w) → wpAnyZ P md ops Q S z fuel (marks size (n + 1)) a w → K' a w) →
   if Region.wanted o (yielded ops a.tmps) = true then Oper.wp P o a w K' Q else K' (a.put o.dst undef) w) : wpAnyZ P md ops Q S z (fuel + 1) (marks size n) a w :=
 wpAnyZ_one hr ho h
theorem wpAnyZ_done {listed : Array Bool} {a : Act} {w : World} (hr : Region.ready md ops listed = []) (h : Q .normal a w) :
  ∀ fuel, wpAnyZ P md ops Q S z fuel listed a w
 | 0 => ⟨hr, h⟩
 | _ + 1 => ⟨fun _ => h, by rw [hr]; simp⟩
theorem wp_region_Z {id : Nat} {a : Act} {w : World} (S : World → Prop) (z size : Nat) (hsz : ops.size = size) (hm : P.follows .mixedOrders = true) (hS : S w.drew)
  (h : Go.RowKit.Hid (S w.drew) → wpAnyZ P .any ops Q S z size (marks size 0) a w.drew) : (Code.region id ops true).wp P Q a w :=
 wp_region_any hm (by rw [hsz]; exact wpAny_of_Z size _ _ _ (h hS))
end
theorem and_u32 (x y : UInt32) : bits .and .u32 (x.toNat : Int) (y.toNat : Int) = (((x &&& y).toNat : Nat) : Int) := by
 rw [u32_and_nat x.toNat y.toNat x.toNat_lt y.toNat_lt, UInt32.toNat_and]
theorem or_u32 (x y : UInt32) : bits .or .u32 (x.toNat : Int) (y.toNat : Int) = (((x ||| y).toNat : Nat) : Int) := by
 rw [u32_or_nat x.toNat y.toNat x.toNat_lt y.toNat_lt, UInt32.toNat_or]
theorem xor_u32 (x y : UInt32) : bits .xor .u32 (x.toNat : Int) (y.toNat : Int) = (((x ^^^ y).toNat : Nat) : Int) := by
 rw [u32_xor_nat x.toNat y.toNat x.toNat_lt y.toNat_lt, UInt32.toNat_xor]
theorem not_u32 (x : UInt32) : bits .xor .u32 IntKind.u32.max (x.toNat : Int) = (((~~~x).toNat : Nat) : Int) := by
 have h : (-1 : UInt32).toNat = 4294967295 := by decide
 have h2 : ~~~x = (-1 : UInt32) ^^^ x := by
  apply UInt32.eq_of_toBitVec_eq
  simp
 have := xor_u32 (-1) x
 rw [h] at this
 rw [h2, ← this]
 rfl
theorem add_u32 (x y : UInt32) : ((x.toNat : Int) + (y.toNat : Int)) % 4294967296 = (((x + y).toNat : Nat) : Int) := by
 rw [UInt32.toNat_add]
 omega
theorem shl_u32 (x : UInt32) (n : Nat) (hn : n < 32) : (x.toNat : Int) * 2 ^ n % 4294967296 = (((x <<< UInt32.ofNat n).toNat : Nat) : Int) := by
 rw [UInt32.toNat_shiftLeft]
 have : (UInt32.ofNat n).toNat % 32 = n := by simp; omega
 rw [this, Nat.shiftLeft_eq, Int.natCast_emod, Int.natCast_mul, Int.natCast_pow]
 rfl
theorem shr_u32 (x : UInt32) (n : Nat) (hn : n < 32) : (x.toNat : Int) / 2 ^ n = (((x >>> UInt32.ofNat n).toNat : Nat) : Int) := by
 rw [UInt32.toNat_shiftRight]
 have : (UInt32.ofNat n).toNat % 32 = n := by simp; omega
 rw [this, Nat.shiftRight_eq_div_pow, Int.natCast_ediv, Int.natCast_pow]
 rfl
theorem wide_u8 (b : UInt8) : ((b.toNat : Nat) : Int) = ((b.toUInt32.toNat : Nat) : Int) := by simp
abbrev u32s (l : List UInt32) : List Value := l.map fun b => Value.int .u32 b.toNat
theorem u32s_at (l : List UInt32) (j : Nat) (h : j < l.length) : (u32s l)[j]? = some (.int .u32 ((l.getD j 0).toNat)) := by
 rw [List.getElem?_map, List.getElem?_eq_getElem h, List.getD_eq_getElem?_getD, List.getElem?_eq_getElem h]; rfl
theorem u32s_set (l : List UInt32) (j : Nat) (x : UInt32) : (u32s l).toArray.setIfInBounds j (.int .u32 x.toNat) = (u32s (l.set j x)).toArray := by
 apply Array.toList_inj.1
 simp [List.map_set]
namespace Pure
def noughts (n : Nat) : Nat := (119 - n % 64) % 64
theorem noughts_spec (n : Nat) : (n + 1 + noughts n) % 64 = 56 := by unfold noughts; omega
theorem noughts_least (n k : Nat) (h : k < noughts n) : (n + 1 + k) % 64 ≠ 56 := by unfold noughts at h; omega
def lenByte (low : Bool) (n i : Nat) : UInt8 := UInt8.ofNat (8 * n / 2 ^ (if low then 8 * i else 56 - 8 * i))
def lenBytes (low : Bool) (n k : Nat) : List UInt8 := (List.range k).map (lenByte low n)
def pad (low : Bool) (b : List UInt8) : List UInt8 := b ++ [128] ++ List.replicate (noughts b.length) 0 ++ lenBytes low b.length 8
theorem pad_length (low : Bool) (b : List UInt8) : (pad low b).length = b.length + 1 + noughts b.length + 8 := by simp [pad, lenBytes]; omega
theorem pad_blocks (low : Bool) (b : List UInt8) : (pad low b).length % 64 = 0 := by
 rw [pad_length]
 have := noughts_spec b.length
 omega
theorem pad_le (low : Bool) (b : List UInt8) : (pad low b).length ≤ b.length + 72 := by
 rw [pad_length]
 unfold noughts
 omega
def rotl (x : UInt32) (n : Nat) : UInt32 := x <<< UInt32.ofNat n ||| x >>> UInt32.ofNat (32 - n)
def wordsLow (m : List UInt8) (at' : Nat) : Nat → List UInt32
 | 0 => List.replicate 16 0
 | i + 1 => (wordsLow m at' i).set (i / 4) ((wordsLow m at' i).getD (i / 4) 0 ||| (m.getD (at' + i) 0).toUInt32 <<< UInt32.ofNat (8 * (i % 4)))
theorem wordsLow_length (m : List UInt8) (at' : Nat) : ∀ i, (wordsLow m at' i).length = 16
 | 0 => rfl
 | i + 1 => by simp only [wordsLow, List.length_set]; exact wordsLow_length m at' i
structure W4 where
 a : UInt32
 b : UInt32
 c : UInt32
 d : UInt32
def md4F (s : Nat) (b c d : UInt32) : UInt32 := if s < 16 then b &&& c ||| ~~~b &&& d else if s < 32 then b &&& c ||| b &&& d ||| c &&& d else b ^^^ c ^^^ d
def md4T (s : Nat) : UInt32 := if s < 16 then 0 else if s < 32 then 0x5a827999 else 0x6ed9eba1
def md4Order : List Nat := [0, 1, 2, 3, 4, 5, 6, 7, 8, 9, 10, 11, 12, 13, 14, 15, 0, 4, 8, 12, 1, 5, 9, 13, 2, 6, 10, 14, 3, 7, 11, 15, 0, 8, 4, 12, 2, 10, 6, 14, 1, 9, 5, 13, 3, 11, 7, 15]
def md4Turns : List Nat := [3, 7, 11, 19, 3, 5, 9, 13, 3, 9, 11, 15]
def md4Step (x : List UInt32) (s : Nat) (v : W4) : W4 :=
 ⟨v.d, rotl (v.a + md4F s v.b v.c v.d + x.getD (md4Order.getD s 0) 0 + md4T s) (md4Turns.getD (s / 16 * 4 + s % 4) 0), v.b, v.c⟩
def md4Steps (x : List UInt32) (v : W4) : Nat → W4
 | 0 => v
 | s + 1 => md4Step x s (md4Steps x v s)
def md4Start : W4 := ⟨0x67452301, 0xefcdab89, 0x98badcfe, 0x10325476⟩
def md4Blocks (m : List UInt8) : Nat → W4
 | 0 => md4Start
 | k + 1 =>
  let h := md4Blocks m k
  let v := md4Steps (wordsLow m (64 * k) 64) h 48
  ⟨h.a + v.a, h.b + v.b, h.c + v.c, h.d + v.d⟩
def W4.list (v : W4) : List UInt32 := [v.a, v.b, v.c, v.d]
def outLow (h : List UInt32) (i : Nat) : UInt8 := (h.getD (i / 4) 0 >>> UInt32.ofNat (8 * (i % 4))).toUInt8
def md4 (b : List UInt8) : List UInt8 := (List.range 16).map (outLow (md4Blocks (pad true b) ((pad true b).length / 64)).list)
theorem md4_length (b : List UInt8) : (md4 b).length = 16 := by simp [md4]
end Pure
def lenOf : Value → Nat
 | .slice _ n _ => n
 | _ => 0
theorem lenBytes_length (low : Bool) (n k : Nat) : (Pure.lenBytes low n k).length = k := by simp [Pure.lenBytes]
theorem new1 (W : World) (x : UInt8) : Row (W.alloc (.cells #[.int .u8 x.toNat] 5)) (fun b => b = W.heap.size) 1 (.slice (some ⟨W.heap.size, 0, none⟩) 1 1) 1 (u8s [x]) := row_new W [x] _ _ rfl rfl (by simp)
theorem left_eq (x : UInt32) (n : Nat) (h1 : 1 ≤ n) (hn : n < 32) : bits .or .u32 ((x.toNat : Int) * 2 ^ n % 4294967296) ((x.toNat : Int) / 2 ^ (32 - n)) = (((Pure.rotl x n).toNat : Nat) : Int) := by
 rw [shl_u32 x n hn, shr_u32 x (32 - n) (by omega), or_u32]
 rfl
theorem rot_any (x : UInt32) (n : Nat) (h1 : 1 ≤ n) (hn : n < 32) (w : World) : Calls Tryz.prog 211 #[.int .u32 x.toNat, .int .i64 n] w fun e w' => e = .returned (.int .u32 ((Pure.rotl x n).toNat)) ∧ w' = w := by
 have h0 : (0 : Int) ≤ n := by omega
 have h2 : (n : Int) < 32 := by omega
 have h3 : (n : Int) ≤ 32 := by omega
 have he := left_eq x n h1 hn
 have hm : bits .and .u64 (n : Int) 31 = (n : Int) := by
  have := u64_and_nat n 31 (by omega) (by omega)
  rw [show n &&& 31 = n from by have := Nat.and_two_pow_sub_one_eq_mod n 5; rw [show (2:Nat)^5 - 1 = 31 from rfl] at this; rw [this]; omega] at this
  exact this
 go_enter Tryz.func211, Tryz.ntmps211
 go_wp2
 go_ret
 exact ⟨rfl, rfl⟩
theorem choice_any (x y z r : UInt32) (hr : r = x &&& y ||| ~~~x &&& z) (w : World) : Calls Tryz.prog 212 #[.int .u32 x.toNat, .int .u32 y.toNat, .int .u32 z.toNat] w fun e w' => e = .returned (.int .u32 r.toNat) ∧ w' = w := by
 obtain ⟨a, ha⟩ : ∃ a, a = x &&& y := ⟨_, rfl⟩
 obtain ⟨b, hb⟩ : ∃ b, b = ~~~x := ⟨_, rfl⟩
 obtain ⟨c, hc⟩ : ∃ c, c = b &&& z := ⟨_, rfl⟩
 rw [← ha, ← hb, ← hc] at hr
 have ea := and_u32 x y
 rw [← ha] at ea
 have eb := not_u32 x
 rw [← hb] at eb
 have ec := and_u32 b z
 rw [← hc] at ec
 have er := or_u32 a c
 rw [← hr] at er
 clear ha hb hc hr
 go_enter Tryz.func212, Tryz.ntmps212
 go_wp2
 all_goals go_ret
 all_goals exact ⟨rfl, rfl⟩
theorem majority_any (x y z r : UInt32) (hr : r = x &&& y ||| x &&& z ||| y &&& z) (w : World) : Calls Tryz.prog 213 #[.int .u32 x.toNat, .int .u32 y.toNat, .int .u32 z.toNat] w fun e w' => e = .returned (.int .u32 r.toNat) ∧ w' = w := by
 obtain ⟨a, ha⟩ : ∃ a, a = x &&& y := ⟨_, rfl⟩
 obtain ⟨b, hb⟩ : ∃ b, b = x &&& z := ⟨_, rfl⟩
 obtain ⟨c, hc⟩ : ∃ c, c = a ||| b := ⟨_, rfl⟩
 obtain ⟨d, hd⟩ : ∃ d, d = y &&& z := ⟨_, rfl⟩
 rw [← ha, ← hb, ← hc, ← hd] at hr
 have ea := and_u32 x y
 rw [← ha] at ea
 have eb := and_u32 x z
 rw [← hb] at eb
 have ec := or_u32 a b
 rw [← hc] at ec
 have ed := and_u32 y z
 rw [← hd] at ed
 have er := or_u32 c d
 rw [← hr] at er
 clear ha hb hc hd hr
 go_enter Tryz.func213, Tryz.ntmps213
 go_wp2
 all_goals go_ret
 all_goals exact ⟨rfl, rfl⟩
theorem parity_any (x y z r : UInt32) (hr : r = x ^^^ y ^^^ z) (w : World) : Calls Tryz.prog 214 #[.int .u32 x.toNat, .int .u32 y.toNat, .int .u32 z.toNat] w fun e w' => e = .returned (.int .u32 r.toNat) ∧ w' = w := by
 obtain ⟨a, ha⟩ : ∃ a, a = x ^^^ y := ⟨_, rfl⟩
 rw [← ha] at hr
 have ea := xor_u32 x y
 rw [← ha] at ea
 have er := xor_u32 a z
 rw [← hr] at er
 clear ha hr
 go_enter Tryz.func214, Tryz.ntmps214
 go_wp2
 all_goals go_ret
 all_goals exact ⟨rfl, rfl⟩
namespace Pure
def sumTo (h v : W4) (i : Nat) : List UInt32 := [h.a + (if 0 < i then v.a else 0), h.b + (if 1 < i then v.b else 0), h.c + (if 2 < i then v.c else 0), h.d + (if 3 < i then v.d else 0)]
theorem sumTo_zero (h v : W4) : sumTo h v 0 = h.list := by simp [sumTo, W4.list]
theorem sumTo_four (h v : W4) : sumTo h v 4 = W4.list ⟨h.a + v.a, h.b + v.b, h.c + v.c, h.d + v.d⟩ := by simp [sumTo, W4.list]
theorem sumTo_succ (h v : W4) (i : Nat) (hi : i < 4) : sumTo h v (i + 1) = (sumTo h v i).set i ((sumTo h v i).getD i 0 + v.list.getD i 0) := by
 rcases (show i = 0 ∨ i = 1 ∨ i = 2 ∨ i = 3 by omega) with rfl | rfl | rfl | rfl <;> simp [sumTo, W4.list]
theorem md4Turns_range (s : Nat) (hs : s < 48) : 1 ≤ md4Turns.getD (s / 16 * 4 + s % 4) 0 ∧ md4Turns.getD (s / 16 * 4 + s % 4) 0 < 32 := by
 have : ∀ s < 48, 1 ≤ md4Turns.getD (s / 16 * 4 + s % 4) 0 ∧ md4Turns.getD (s / 16 * 4 + s % 4) 0 < 32 := by decide
 exact this s hs
theorem md4Order_range (s : Nat) (hs : s < 48) : md4Order.getD s 0 < 16 := by
 have : ∀ s < 48, md4Order.getD s 0 < 16 := by decide
 exact this s hs
end Pure
end Go.Proofs.YtmgicbckgpdkcaaGreatDoor
