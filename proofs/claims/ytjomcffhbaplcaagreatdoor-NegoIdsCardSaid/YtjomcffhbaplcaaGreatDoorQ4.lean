/- A region that asks the tape for its order and whose last operation, for which all others are waited, may write what the others read: a condition S is shown behind each of the others alone. -/
import Derived.Deep.RegionHeld3
import Derived.WalkKit
import Derived.Laws.Tables
import Derived.Laws.CopyOwn
import Derived.Test.YtjomcffhbaplcaaGreatDoorQ3
import Derived.Laws.Rows
namespace Go.Proofs.YtjomcffhbaplcaaGreatDoor
section
variable {P : Program} {ops : Array Oper} {Q : Exit → Act → World → Prop} {md : Region.Mode} {S : World → Prop} {z : Nat}

/-- Whatever order is picked from here on; behind every operation but z the condition holds. -/
def wpAnyZ (P : Program) (md : Region.Mode) (ops : Array Oper) (Q : Exit → Act → World → Prop) (S : World → Prop) (z : Nat) : Nat → Array Bool → Act → World → Prop
  | 0, listed, a, w => Region.ready md ops listed = [] ∧ Q .normal a w
  | fuel + 1, listed, a, w =>
    (Region.ready md ops listed = [] → Q .normal a w) ∧
    ∀ i ∈ Region.ready md ops listed, wpOp P ops Q i (fun a' w' => (i ≠ z → S w') ∧ wpAnyZ P md ops Q S z fuel (listed.setIfInBounds i true) a' w') a w

theorem wpAny_of_Z : ∀ (fuel : Nat) (listed : Array Bool) (a : Act) (w : World), wpAnyZ P md ops Q S z fuel listed a w → wpAny P md ops Q fuel listed a w
  | 0, _, _, _, h => h
  | fuel + 1, _, _, _, h => ⟨h.1, fun i hi => wpOp_mono (fun a' w' h' => wpAny_of_Z fuel _ a' w' h'.2) (h.2 i hi)⟩

/-- z waits for i, by edges one behind the other. -/
inductive Waits (md : Region.Mode) (ops : Array Oper) (z : Nat) : Nat → Prop
  | one {o : Oper} {e : Edge} (ho : ops[z]? = some o) (he : e ∈ o.after) (hb : Region.binds md e = true) : Waits md ops z e.on
  | more {k : Nat} {o : Oper} {e : Edge} (h : Waits md ops z k) (ho : ops[k]? = some o) (he : e ∈ o.after) (hb : Region.binds md e = true) : Waits md ops z e.on
/-- The edges of one are marked. -/
def markAll (md : Region.Mode) : List Edge → Array Bool → Array Bool
  | [], r => r
  | e :: es, r => markAll md es (if Region.binds md e = true then r.setIfInBounds e.on true else r)
/-- From the last one down. -/
def reachDown (md : Region.Mode) (ops : Array Oper) : Nat → Array Bool → Array Bool
  | 0, r => r
  | k + 1, r => reachDown md ops k (if r.getD k false = true then (match ops[k]? with | some o => markAll md o.after.toList r | none => r) else r)
def waitsFor (md : Region.Mode) (ops : Array Oper) (z i : Nat) : Bool := (reachDown md ops ops.size ((Array.replicate ops.size false).setIfInBounds z true)).getD i false && i != z
theorem getD_set_cases {r : Array Bool} {i j : Nat} (h : (r.setIfInBounds i true).getD j false = true) : j = i ∨ r.getD j false = true := by
  by_cases hij : i = j
  · exact .inl hij.symm
  · rw [getD_set_ne false hij] at h
    exact .inr h
theorem markAll_sound {z : Nat} (hz : ∀ e, Region.binds md e = true → (∃ k o, ops[k]? = some o ∧ e ∈ o.after ∧ (k = z ∨ Waits md ops z k)) → Waits md ops z e.on) :
    ∀ (es : List Edge) (r : Array Bool), (∀ e ∈ es, ∃ k o, ops[k]? = some o ∧ e ∈ o.after ∧ (k = z ∨ Waits md ops z k)) → (∀ j, r.getD j false = true → j = z ∨ Waits md ops z j) →
      ∀ j, (markAll md es r).getD j false = true → j = z ∨ Waits md ops z j
  | [], _, _, hr => hr
  | e :: es, r, he, hr => by
    refine markAll_sound hz es _ (fun e' h' => he e' (by simp [h'])) (fun j hj => ?_)
    split at hj
    · rename_i hb
      rcases getD_set_cases hj with rfl | hj
      · exact .inr (hz e hb (he e (by simp)))
      · exact hr j hj
    · exact hr j hj
theorem waits_of_edge {z : Nat} (e : Edge) (hb : Region.binds md e = true) (h : ∃ k o, ops[k]? = some o ∧ e ∈ o.after ∧ (k = z ∨ Waits md ops z k)) : Waits md ops z e.on := by
  obtain ⟨k, o, ho, he, rfl | hk⟩ := h
  · exact .one ho he hb
  · exact .more hk ho he hb
theorem reachDown_sound {z : Nat} : ∀ (k : Nat) (r : Array Bool), (∀ j, r.getD j false = true → j = z ∨ Waits md ops z j) → ∀ j, (reachDown md ops k r).getD j false = true → j = z ∨ Waits md ops z j
  | 0, _, hr => hr
  | k + 1, r, hr => by
    refine reachDown_sound k _ (fun j hj => ?_)
    split at hj
    · rename_i hk
      cases ho : ops[k]? with
      | none => rw [ho] at hj; exact hr j hj
      | some o =>
        rw [ho] at hj
        exact markAll_sound (fun e hb h => waits_of_edge e hb h) o.after.toList r (fun e he => ⟨k, o, ho, by simpa using he, hr k hk⟩) hr j hj
    · exact hr j hj
theorem rep_false (n j : Nat) : (Array.replicate n false).getD j false = false := by
  rw [Array.getD_eq_getD_getElem?, Array.getElem?_replicate]
  split <;> rfl
theorem waits_of_waitsFor {z i : Nat} (h : waitsFor md ops z i = true) : Waits md ops z i := by
  unfold waitsFor at h
  simp only [Bool.and_eq_true, bne_iff_ne, ne_eq] at h
  rcases reachDown_sound (md := md) (ops := ops) (z := z) ops.size _ (fun j hj => by
    rcases getD_set_cases hj with rfl | hj
    · exact .inl rfl
    · rw [rep_false] at hj
      cases hj) i h.1 with h1 | h1
  · exact absurd h1 h.2
  · exact h1
/-- What has come up has had all that it waits for come up. -/
def Closed (md : Region.Mode) (ops : Array Oper) (listed : Array Bool) : Prop :=
  ∀ (j : Nat) (o : Oper), ops[j]? = some o → listed.getD j false = true → ∀ e ∈ o.after, Region.binds md e = true → listed.getD e.on false = true
def closedB (md : Region.Mode) (ops : Array Oper) (listed : Array Bool) : Bool :=
  (List.range ops.size).all fun j => !listed.getD j false || match ops[j]? with
    | none => true
    | some o => o.after.all fun e => !Region.binds md e || listed.getD e.on false
theorem closed_of {listed : Array Bool} (h : closedB md ops listed = true) : Closed md ops listed := by
  intro j o ho hl e he hb
  simp only [closedB, List.all_eq_true, List.mem_range] at h
  have := h j (Array.getElem?_eq_some_iff.1 ho).1
  rw [hl, ho] at this
  simp only [Bool.not_true, Bool.false_or] at this
  have := Array.all_eq_true'.1 this e he
  rw [hb] at this
  simpa using this
theorem Closed.set {listed : Array Bool} (h : Closed md ops listed) {i : Nat} (hr : i ∈ Region.ready md ops listed) : Closed md ops (listed.setIfInBounds i true) := by
  intro j o ho hl e he hb
  by_cases hij : i = j
  · subst hij
    obtain ⟨_, o', ho', hall⟩ := mem_ready.1 hr
    rw [ho] at ho'
    injection ho' with ho'
    subst ho'
    exact getD_set_true (hall e he hb)
  · rw [getD_set_ne false hij] at hl
    exact getD_set_true (h j o ho hl e he hb)
theorem waits_listed {listed : Array Bool} (hc : Closed md ops listed) {z i : Nat} (h : Waits md ops z i) (hz : ∀ o, ops[z]? = some o → ∀ e ∈ o.after, Region.binds md e = true → listed.getD e.on false = true) : listed.getD i false = true := by
  induction h with
  | one ho he hb => exact hz _ ho _ he hb
  | more _ ho he hb ih => exact hc _ _ ho ih _ he hb
theorem waitsFor_not_ready {i : Nat} {listed : Array Bool} (hc : Closed md ops listed) (h : waitsFor md ops z i = true) (hi : listed.getD i true = false) (hs : i < listed.size) : z ∉ Region.ready md ops listed := by
  intro hz
  obtain ⟨_, o, ho, hall⟩ := mem_ready.1 hz
  have h1 := waits_listed hc (waits_of_waitsFor h) (fun o' ho' e he hb => by
    rw [ho] at ho'
    injection ho' with ho'
    subst ho'
    exact hall e he hb)
  simp [hs] at h1 hi
  rw [hi] at h1
  cases h1

theorem wpAnyZ_first {i : Nat} {oi : Oper} {v : Value} (hi : ops[i]? = some oi) (hsel : ∀ (j : Nat) (o : Oper) cs b, ops[j]? = some o → o.op ≠ .select cs b)
    (hQ : ∀ c a w, Q (.panic c) (a.put oi.dst v) w → Q (.panic c) a w) (hz : waitsFor md ops z i = true) :
    ∀ (fuel : Nat) (listed : Array Bool) (a : Act) (w : World),
      (∀ j oj, ops[j]? = some oj → j ≠ i → listed.getD j true = false → (∀ e ∈ oj.after, Region.binds md e = true → e.on ≠ i) → oi.apart ops oj = true) →
      Closed md ops listed → i < listed.size → i ∈ Region.ready md ops listed → YieldsIf P ops S oi v a → S w →
      wpAnyZ P md ops Q S z fuel (listed.setIfInBounds i true) (a.put oi.dst v) w → wpAnyZ P md ops Q S z (fuel + 1) listed a w := by
  intro fuel
  induction fuel with
  | zero =>
    intro listed a w _ _ _ hr hy hS H
    refine ⟨fun h => (by rw [h] at hr; cases hr), fun j hj => ?_⟩
    by_cases hji : j = i
    · subst hji; exact hy.wpOp hi hS ⟨fun _ => hS, H⟩
    · have := ready_mono hj hji
      rw [H.1] at this
      cases this
  | succ fuel ih =>
    intro listed a w hfree hcl hsz hr hy hS H
    refine ⟨fun h => (by rw [h] at hr; cases hr), fun j hj => ?_⟩
    by_cases hji : j = i
    · subst hji; exact hy.wpOp hi hS ⟨fun _ => hS, H⟩
    · have hjz : j ≠ z := fun e => waitsFor_not_ready hcl hz (mem_ready.1 hr).1 hsz (e ▸ hj)
      have h1 := H.2 j (ready_mono hj hji)
      obtain ⟨hjun, oj, hoj, hall⟩ := mem_ready.1 hj
      have hnot : ∀ e ∈ oj.after, Region.binds md e = true → e.on ≠ i := fun e he hb heq => by
        have h1 := hall e he hb
        have h0 := (mem_ready.1 hr).1
        rw [heq] at h1
        simp [hsz] at h0 h1
        rw [h0] at h1
        cases h1
      have h2 := wpOp_putIf hoj (hfree j oj hoj hji hjun hnot) (fun cs b => hsel i oi cs b hi) (fun cs b => hsel j oj cs b hoj) hQ hy h1
      have hfree' : ∀ k ok, ops[k]? = some ok → k ≠ i → (listed.setIfInBounds j true).getD k true = false →
          (∀ e ∈ ok.after, Region.binds md e = true → e.on ≠ i) → oi.apart ops ok = true := fun k ok hk hki hun hno => by
        refine hfree k ok hk hki ?_ hno
        by_cases hjk : j = k
        · subst hjk; exact hjun
        · rw [getD_set_ne true hjk] at hun; exact hun
      refine wpOp_mono (fun a' w' h3 => ⟨fun _ => h3.2.1 hjz, ih (listed.setIfInBounds j true) a' w' hfree' (hcl.set hj) (by simpa using hsz) (ready_mono hr (Ne.symm hji)) h3.1 (h3.2.1 hjz) ?_⟩) h2
      rw [Array.setIfInBounds_comm _ _ hji]
      exact h3.2.2

/-- Take number i first. -/
theorem wpAnyZ_take {i : Nat} {oi : Oper} {v : Value} {fuel : Nat} {listed : Array Bool} {a : Act} {w : World} (hi : ops[i]? = some oi)
    (hc : (Region.noSelect ops && Region.free md ops listed i && (Region.ready md ops listed).contains i && waitsFor md ops z i && decide (i < listed.size) && closedB md ops listed) = true)
    (hQ : ∀ c a w, Q (.panic c) (a.put oi.dst v) w → Q (.panic c) a w) (hy : YieldsIf P ops S oi v a) (hS : S w)
    (h : wpAnyZ P md ops Q S z fuel (listed.setIfInBounds i true) (a.put oi.dst v) w) : wpAnyZ P md ops Q S z (fuel + 1) listed a w := by
  simp only [Bool.and_eq_true, decide_eq_true_eq] at hc
  obtain ⟨⟨⟨⟨⟨h1, h2⟩, h3⟩, h4⟩, h5⟩, h6⟩ := hc
  exact wpAnyZ_first hi (Region.noSelect_spec h1) hQ h4 fuel listed a w (Region.free_spec hi h2) (closed_of h6) h5 (by simpa using h3) hy hS h

/-- The one that may come up, and all that follows. -/
theorem wpAnyZ_one {i : Nat} {o : Oper} {fuel : Nat} {listed : Array Bool} {a : Act} {w : World} (hr : Region.ready md ops listed = [i]) (ho : ops[i]? = some o)
    (h : ∀ K' : Act → World → Prop, Shut (∀ a w, (i ≠ z → S w) → wpAnyZ P md ops Q S z fuel (listed.setIfInBounds i true) a w → K' a w) →
      if Region.wanted o (yielded ops a.tmps) = true then Oper.wp P o a w K' Q else K' (a.put o.dst undef) w) : wpAnyZ P md ops Q S z (fuel + 1) listed a w :=
  ⟨fun h0 => (by rw [h0] at hr; cases hr), fun j hj => by
    rw [hr] at hj
    obtain rfl : j = i := by simpa using hj
    exact wpOp_step ho (fun K' hK => h K' (fun a w hS hW => hK a w ⟨hS, hW⟩))⟩

/-- The first n have come up. -/
def marks (size : Nat) : Nat → Array Bool
  | 0 => Array.replicate size false
  | n + 1 => (marks size n).setIfInBounds n true
/-- The walk in the text's order: number n yields its value in every world that meets S. -/
theorem wpAnyZ_next {n size : Nat} {oi : Oper} {v : Value} {fuel : Nat} {a : Act} {w : World} (hi : ops[n]? = some oi)
    (hc : (Region.noSelect ops && Region.free md ops (marks size n) n && (Region.ready md ops (marks size n)).contains n && waitsFor md ops z n && decide (n < (marks size n).size) && closedB md ops (marks size n)) = true)
    (hQ : ∀ c a w, Q (.panic c) (a.put oi.dst v) w → Q (.panic c) a w) (hy : YieldsIf P ops S oi v a) (hS : S w)
    (h : wpAnyZ P md ops Q S z fuel (marks size (n + 1)) (a.put oi.dst v) w) : wpAnyZ P md ops Q S z (fuel + 1) (marks size n) a w :=
  wpAnyZ_take hi hc hQ hy hS h
/-- In the text's order: the one that may come up. -/
theorem wpAnyZ_step {n size : Nat} {o : Oper} {fuel : Nat} {a : Act} {w : World} (hr : Region.ready md ops (marks size n) = [n]) (ho : ops[n]? = some o)
    (h : ∀ K' : Act → World → Prop, Shut (∀ a w, (n ≠ z → S w) → wpAnyZ P md ops Q S z fuel (marks size (n + 1)) a w → K' a w) →
      if Region.wanted o (yielded ops a.tmps) = true then Oper.wp P o a w K' Q else K' (a.put o.dst undef) w) : wpAnyZ P md ops Q S z (fuel + 1) (marks size n) a w :=
  wpAnyZ_one hr ho h

theorem wpAnyZ_two {i j : Nat} {o o' : Oper} {fuel : Nat} {listed : Array Bool} {a : Act} {w : World} (hr : Region.ready md ops listed = [i, j]) (ho : ops[i]? = some o) (ho' : ops[j]? = some o')
    (h : ∀ K' : Act → World → Prop, Shut (∀ a w, (i ≠ z → S w) → wpAnyZ P md ops Q S z fuel (listed.setIfInBounds i true) a w → K' a w) →
      if Region.wanted o (yielded ops a.tmps) = true then Oper.wp P o a w K' Q else K' (a.put o.dst undef) w)
    (h' : ∀ K' : Act → World → Prop, Shut (∀ a w, (j ≠ z → S w) → wpAnyZ P md ops Q S z fuel (listed.setIfInBounds j true) a w → K' a w) →
      if Region.wanted o' (yielded ops a.tmps) = true then Oper.wp P o' a w K' Q else K' (a.put o'.dst undef) w) : wpAnyZ P md ops Q S z (fuel + 1) listed a w :=
  ⟨fun h0 => (by rw [h0] at hr; cases hr), fun k hk => by
    rw [hr] at hk
    rcases List.mem_cons.1 hk with rfl | hk
    · exact wpOp_step ho (fun K' hK => h K' (fun a w hS hW => hK a w ⟨hS, hW⟩))
    · obtain rfl : k = j := by simpa using hk
      exact wpOp_step ho' (fun K' hK => h' K' (fun a w hS hW => hK a w ⟨hS, hW⟩))⟩
theorem wpAnyZ_done {listed : Array Bool} {a : Act} {w : World} (hr : Region.ready md ops listed = []) (h : Q .normal a w) :
    ∀ fuel, wpAnyZ P md ops Q S z fuel listed a w
  | 0 => ⟨hr, h⟩
  | _ + 1 => ⟨fun _ => h, by rw [hr]; simp⟩

/-- From here on more may be asked of each world. -/
theorem wpAnyZ_more {S' : World → Prop} (hS : ∀ w, S' w → S w) : ∀ (fuel : Nat) (listed : Array Bool) (a : Act) (w : World), wpAnyZ P md ops Q S' z fuel listed a w → wpAnyZ P md ops Q S z fuel listed a w
  | 0, _, _, _, h => h
  | fuel + 1, _, _, _, h => ⟨h.1, fun i hi => wpOp_mono (fun a' w' h' => ⟨fun hz => hS _ (h'.1 hz), wpAnyZ_more hS fuel _ a' w' h'.2⟩) (h.2 i hi)⟩

theorem wp_region_Z {id : Nat} {a : Act} {w : World} (S : World → Prop) (z size : Nat) (hsz : ops.size = size) (hm : P.follows .mixedOrders = true) (hS : S w.drew)
    (h : Go.RowKit.Hid (S w.drew) → wpAnyZ P .any ops Q S z size (marks size 0) a w.drew) : (Code.region id ops true).wp P Q a w :=
  wp_region_any hm (by rw [hsz]; exact wpAny_of_Z size _ _ _ (h hS))
end
end Go.Proofs.YtjomcffhbaplcaaGreatDoor
/- A row stored whole. -/
namespace Go.Proofs.YtjomcffhbaplcaaGreatDoor
open Go.RowKit
theorem Keeps.rowSet {S : Nat → Prop} {a w : World} {g : Nat} (h : Keeps S a w) (hp : g < a.heap.size → S g) (cs : Array Value) : Keeps S a (w.setRow g cs) :=
  ⟨h.os, h.tape, h.output, by simpa using h.size, fun k hk hs => (setRow_other w g k cs (fun e => hs (e ▸ hp (e ▸ hk)))).trans (h.block k hk hs)⟩
theorem Blk.rowSet {w : World} {g : Nat} {t : TypeId} {old : Array Value} (h : Blk w g t old) (cs : Array Value) : Blk (w.setRow g cs) g t cs := setRow_heap w g old cs t (0, 0) h
theorem all_ints (l : List Nat) : (l.map fun (b : Nat) => Value.int .i64 (b : Int)).toArray.all (·.oneCell') = true := by simp [Value.oneCell']
theorem all_words (l : List UInt32) : (l.map fun (b : UInt32) => Value.int .u32 b.toNat).toArray.all (·.oneCell') = true := by simp [Value.oneCell']
theorem exec_load_row {P : Program} {o : Oper} {a : Act} {w : World} (ty : TypeId) (x : Operand) (ho : o.op = .load ty x)
    (g : Nat) (hx : a.eval x = .pointer (some ⟨g, 0, none⟩)) (t : TypeId) (cs : Array Value) (fr : Nat × Nat) (d : TypeDesc) (hg : w.heap[g]? = some (.cells cs t fr))
    (hu : P.underlying ty = some d) (hd : (match d with | .struct _ | .array _ _ => true | _ => false) = true) (hi : (P.info? ty).map (·.size) = some cs.size) :
    (execOp a.eval o).run P w = .ok (.value (.agg cs)) w := by
  unfold execOp
  simp only [ho, hx, Instr.loadAt, Instr.sureAddr, Sem.run_bind, Sem.run_pure, Result.andThen_ok, run_loadVar_row w g t ty cs fr d hg hu hd hi]

end Go.Proofs.YtjomcffhbaplcaaGreatDoor
/- The document's comparing of options. -/
namespace Go.Proofs.YtjomcffhbaplcaaGreatDoor
open Go.RowKit
abbrev optV (p : Value × Pure.Opt) : Value := .agg #[.int .i64 p.2.1, p.1]
set_option maxRecDepth 100000 in
set_option maxHeartbeats 2000000 in
theorem docone_any (F G : Nat → Prop) (v u : Value) (a b : Pure.Opt) (w : World) (hx : Row w F 1 v a.2.length (u8s a.2)) (hy : Row w G 1 u b.2.length (u8s b.2)) :
    Calls Tryz.prog 44 #[optV (v, a), optV (u, b)] w fun e w' => e = .returned (.bool (decide (a = b))) ∧ Keeps nobody w w' := by
  obtain ⟨A, cA, rfl, hc⟩ := hx.form
  obtain ⟨B, cB, rfl, hd⟩ := hy.form
  obtain ⟨s, la⟩ := a
  obtain ⟨t, lb⟩ := b
  dsimp only at *
  have HX := Lib.hid hx
  have HY := Lib.hid hy
  clear hx hy
  obtain ⟨g, hg⟩ : ∃ g, g = w.heap.size := ⟨_, rfl⟩
  go_enter Tryz.func44, Tryz.ntmps44
  go_upto_region 1 with fail
  obtain ⟨w1, hw1⟩ : ∃ w1, w1 = (w.alloc (.cells #[.int .i64 s, .slice A la.length cA] 54)).alloc (.cells #[.int .i64 t, .slice B lb.length cB] 54) := ⟨_, rfl⟩
  rw [← hw1, ← hg]
  have hb1 : Blk w1 g 54 #[.int .i64 s, .slice A la.length cA] := by rw [hw1, hg]; exact (Blk.new w _ _).alloc _
  have hb2 : Blk w1 (g + 1) 54 #[.int .i64 t, .slice B lb.length cB] := by
    rw [hw1, hg]
    have := Blk.new (w.alloc (.cells #[.int .i64 s, .slice A la.length cA] 54)) 54 #[.int .i64 t, .slice B lb.length cB]
    rw [World.size_alloc] at this
    exact this
  have hk : Keeps nobody w w1 := by rw [hw1]; exact ((Keeps.refl _ w).alloc _).alloc _
  have a0 : w1.cell? ⟨g, 0, none⟩ = some (.int .i64 s) := by rw [hb1.cell]; rfl
  have a1 : w1.cell? ⟨g, 1, none⟩ = some (.slice A la.length cA) := by rw [hb1.cell]; rfl
  have b0 : w1.cell? ⟨g + 1, 0, none⟩ = some (.int .i64 t) := by rw [hb2.cell]; rfl
  have b1 : w1.cell? ⟨g + 1, 1, none⟩ = some (.slice B lb.length cB) := by rw [hb2.cell]; rfl
  have HS := Lib.hid (same_any F G _ _ la lb w1 (HX.out.keeps hk (fun _ _ h => h)) (HY.out.keeps hk (fun _ _ h => h)))
  have HK := Lib.hid hk
  clear hw1 hb1 hb2 hk hg
  by_cases hst : s = t
  · have d0 : (s == t) = true := by rw [hst]; exact beq_self_eq_true t
    have hdec : decide ((s, la) = (t, lb)) = decide (la = lb) := by rw [hst]; simp
    have HD := Lib.hid hdec
    obtain ⟨r, hr⟩ : ∃ r, r = decide (la = lb) := ⟨_, rfl⟩
    rw [← hr] at HS HD
    clear hst hdec hr
    go_wp2_with fail
    refine HS.out.mono ?_
    rintro e w2 ⟨rfl, hk2⟩
    have HK2 := Lib.hid (HK.out.trans hk2)
    clear hk2 HS
    cases r
    · go_wp2
      go_ret
      exact ⟨by rw [HD.out]; rfl, HK2.out⟩
    · go_wp2
      go_ret
      exact ⟨by rw [HD.out]; rfl, HK2.out⟩
  · have d0 : (s == t) = false := by rw [beq_eq_false_iff_ne]; exact hst
    have HD := Lib.hid (show decide ((s, la) = (t, lb)) = false from decide_eq_false (fun e => hst (congrArg Prod.fst e)))
    clear hst HS
    go_wp2
    go_ret
    exact ⟨by rw [HD.out]; rfl, HK.out⟩
end Go.Proofs.YtjomcffhbaplcaaGreatDoor
/- The document's comparing of lists of options. -/
namespace Go.Proofs.YtjomcffhbaplcaaGreatDoor
open Go.RowKit
theorem opt_quiet {w w' : World} {b off : Nat} {u : Value} (h : w.cell? ⟨b, off, none⟩ = some u) (k : Keeps nobody w w') : w'.cell? ⟨b, off, none⟩ = some u :=
  (World.cell?_of_block (w := w) (a := ⟨b, off, none⟩) (k.block b (cell_lt h) (fun x => x))).trans h
abbrev optsOf (ps : List (Value × Pure.Opt)) : List Pure.Opt := ps.map Prod.snd
set_option maxRecDepth 100000 in
set_option maxHeartbeats 4000000 in
theorem docopts_same (F G : Nat → Prop) (x y : Value) (ps qs : List (Value × Pure.Opt)) (w : World) (hx : ORow w F x ps) (hy : ORow w G y qs) :
    Calls Tryz.prog 17 #[x, y] w fun e w' => e = .returned (.bool (decide (optsOf ps = optsOf qs))) ∧ Keeps nobody w w' := by
  obtain ⟨A, cA, rfl, hc⟩ := hx.form
  obtain ⟨B, cB, rfl, hd⟩ := hy.form
  have hm := hx.out.2.1
  have hm2 := hy.out.2.1
  unfold maxLen at hm hm2
  have HX := Lib.hid hx
  have HY := Lib.hid hy
  clear hx hy
  by_cases hl : ps.length = qs.length
  · have e1 : ((ps.length : Int) != (qs.length : Int)) = false := by rw [hl]; simp
    have HL := Lib.hid hl
    rw [← hl] at HY ⊢
    rw [← hl] at e1
    clear hl hm2
    go_enter Tryz.func17, Tryz.ntmps17
    go_wp2
    clear e1
    go_loopw [5] (fun i wr => ∃ k : Nat, k ≤ ps.length ∧ i = .int .i64 (k : Int) ∧ (optsOf ps).take k = (optsOf qs).take k ∧ Keeps nobody w wr) (fun i _ => ps.length - (intOf i).toNat)
    case atStart => exact ⟨0, by omega, rfl, by simp, Keeps.refl _ _⟩
    case round =>
      obtain ⟨k, hk, rfl, hT, hK⟩ := hrel
      have HT := Lib.hid hT
      have HK := Lib.hid hK
      by_cases hkl : k < ps.length
      · have i0 : (0 : Int) ≤ (k : Int) := by omega
        have i1 : (k : Int) < (ps.length : Int) := by omega
        have hkq : k < qs.length := by have := HL.out; omega
        obtain ⟨p, o, A1, c1, s, la, rfl, hFp, x0, x1, hra, hpa⟩ := (HX.out.keeps hK (fun _ _ h => h)).pick k hkl
        obtain ⟨q, o2, A2, c2, t, lb, rfl, hGq, y0, y1, hrb, hqb⟩ := (HY.out.keeps hK (fun _ _ h => h)).pick k hkq
        have HRA := Lib.hid hra
        have HRB := Lib.hid hrb
        have HPA := Lib.hid hpa
        have HQB := Lib.hid hqb
        clear hT hK hra hrb hpa hqb
        go_upto_region 6 with fail
        refine wp_region_Z (fun w' => w'.cell? ⟨p, o + k * 2, none⟩ = some (.int .i64 s) ∧ w'.cell? ⟨p, o + k * 2 + 1, none⟩ = some (.slice A1 la.length c1) ∧ w'.cell? ⟨q, o2 + k * 2, none⟩ = some (.int .i64 t) ∧ w'.cell? ⟨q, o2 + k * 2 + 1, none⟩ = some (.slice A2 lb.length c2)) 9 10 rfl (by kernel_rfl) ⟨x0, x1, y0, y1⟩ (fun hHeld => ?_)
        refine wpAnyZ_take (i := 0) rfl (by kernel_rfl) (fun _ _ _ h => h) (Or.inl ⟨by rfl, by intro w hSw; obtain ⟨s0, s1, s2, s3⟩ := hSw; go_simp; try with_reducible rfl⟩) hHeld.out ?_
        simp only [Act.put, List.setIfInBounds_toArray, List.getElem_toArray, List.getElem_cons_zero, List.set_cons_succ, List.set_cons_zero]
        refine wpAnyZ_take (i := 1) rfl (by kernel_rfl) (fun _ _ _ h => h) (Or.inl ⟨by rfl, by intro w hSw; obtain ⟨s0, s1, s2, s3⟩ := hSw; go_simp; try with_reducible rfl⟩) hHeld.out ?_
        simp only [Act.put, List.setIfInBounds_toArray, List.getElem_toArray, List.getElem_cons_succ, List.getElem_cons_zero, List.set_cons_succ, List.set_cons_zero]
        refine wpAnyZ_take (i := 2) rfl (by kernel_rfl) (fun _ _ _ h => h) (Or.inl ⟨by rfl, by intro w hSw; obtain ⟨s0, s1, s2, s3⟩ := hSw; go_simp; try with_reducible rfl⟩) hHeld.out ?_
        simp only [Act.put, List.setIfInBounds_toArray, List.getElem_toArray, List.getElem_cons_succ, List.getElem_cons_zero, List.set_cons_succ, List.set_cons_zero]
        refine wpAnyZ_take (i := 3) rfl (by kernel_rfl) (fun _ _ _ h => h) (Or.inl ⟨by rfl, by intro w hSw; obtain ⟨s0, s1, s2, s3⟩ := hSw; go_simp; try with_reducible rfl⟩) hHeld.out ?_
        simp only [Act.put, List.setIfInBounds_toArray, List.getElem_toArray, List.getElem_cons_succ, List.getElem_cons_zero, List.set_cons_succ, List.set_cons_zero]
        refine wpAnyZ_take (i := 4) rfl (by kernel_rfl) (fun _ _ _ h => h) (Or.inl ⟨by rfl, by intro w hSw; obtain ⟨s0, s1, s2, s3⟩ := hSw; go_simp; try with_reducible rfl⟩) hHeld.out ?_
        simp only [Act.put, List.setIfInBounds_toArray, List.getElem_toArray, List.getElem_cons_succ, List.getElem_cons_zero, List.set_cons_succ, List.set_cons_zero]
        refine wpAnyZ_take (i := 5) rfl (by kernel_rfl) (fun _ _ _ h => h) (Or.inl ⟨by rfl, by intro w hSw; obtain ⟨s0, s1, s2, s3⟩ := hSw; go_simp; try with_reducible rfl⟩) hHeld.out ?_
        simp only [Act.put, List.setIfInBounds_toArray, List.getElem_toArray, List.getElem_cons_succ, List.getElem_cons_zero, List.set_cons_succ, List.set_cons_zero]
        refine wpAnyZ_take (i := 6) rfl (by kernel_rfl) (fun _ _ _ h => h) (Or.inl ⟨by rfl, by intro w hSw; obtain ⟨s0, s1, s2, s3⟩ := hSw; go_simp; try with_reducible rfl⟩) hHeld.out ?_
        simp only [Act.put, List.setIfInBounds_toArray, List.getElem_toArray, List.getElem_cons_succ, List.getElem_cons_zero, List.set_cons_succ, List.set_cons_zero]
        refine wpAnyZ_take (i := 7) rfl (by kernel_rfl) (fun _ _ _ h => h) (Or.inl ⟨by rfl, by intro w hSw; obtain ⟨s0, s1, s2, s3⟩ := hSw; go_simp; try with_reducible rfl⟩) hHeld.out ?_
        simp only [Act.put, List.setIfInBounds_toArray, List.getElem_toArray, List.getElem_cons_succ, List.getElem_cons_zero, List.set_cons_succ, List.set_cons_zero]
        refine wpAnyZ_one (i := 8) (by kernel_rfl) rfl (fun K hK => ?_)
        go_simp
        have hwd : Keeps nobody wr wr.drew := (Keeps.refl _ wr).drew
        refine (docone_any F G (.slice A1 la.length c1) (.slice A2 lb.length c2) (s, la) (t, lb) wr.drew (HRA.out.keeps hwd (fun _ _ h => h)) (HRB.out.keeps hwd (fun _ _ h => h))).mono ?_
        rintro e w2 ⟨rfl, hk2⟩
        have hk2 : Keeps nobody wr w2 := hwd.trans hk2
        have HH2 := Lib.hid (show w2.cell? ⟨p, o + k * 2, none⟩ = some (.int .i64 s) ∧ w2.cell? ⟨p, o + k * 2 + 1, none⟩ = some (.slice A1 la.length c1) ∧ w2.cell? ⟨q, o2 + k * 2, none⟩ = some (.int .i64 t) ∧ w2.cell? ⟨q, o2 + k * 2 + 1, none⟩ = some (.slice A2 lb.length c2) from
          ⟨opt_quiet x0 hk2, opt_quiet x1 hk2, opt_quiet y0 hk2, opt_quiet y1 hk2⟩)
        refine hK.out _ _ (fun _ => HH2.out) ?_
        have HK2 := Lib.hid (HK.out.trans hk2)
        obtain ⟨r, hr⟩ : ∃ r, r = decide ((s, la) = (t, lb)) := ⟨_, rfl⟩
        rw [← hr]
        have HRr := Lib.hid hr
        clear hK K hHeld hwd hk2 hr x0 x1 y0 y1 HK
        refine wpAnyZ_one (i := 9) (by kernel_rfl) rfl (fun K hK => ?_)
        go_simp
        refine hK.out _ _ (fun _ => HH2.out) ?_
        clear hK K
        refine wpAnyZ_done (by kernel_rfl) ?_ _
        have hps : (optsOf ps)[k]? = some (s, la) := by rw [List.getElem?_map, HPA.out]; rfl
        have hqs : (optsOf qs)[k]? = some (t, lb) := by rw [List.getElem?_map, HQB.out]; rfl
        cases r
        · have hno : decide (optsOf ps = optsOf qs) = false := by
            rw [decide_eq_false_iff_not]
            intro he
            rw [he, hqs] at hps
            injection hps with hps
            have := HRr.out
            rw [hps] at this
            simp at this
          have HNO := Lib.hid hno
          clear hno hps hqs
          go_wp2
          go_ret
          exact ⟨by rw [HNO.out]; rfl, HK2.out⟩
        · have hyes : (s, la) = (t, lb) := of_decide_eq_true HRr.out.symm
          have hTk : (optsOf ps).take (k + 1) = (optsOf qs).take (k + 1) := by
            rw [List.take_succ_eq_append_getElem (by simpa using hkl), List.take_succ_eq_append_getElem (by simpa using hkq), HT.out]
            congr 1
            have e1 : (optsOf ps)[k]'(by simpa using hkl) = (s, la) := by
              have := List.getElem?_eq_getElem (l := optsOf ps) (i := k) (by simpa using hkl)
              rw [hps] at this
              injection this with this
              exact this.symm
            have e2 : (optsOf qs)[k]'(by simpa using hkq) = (t, lb) := by
              have := List.getElem?_eq_getElem (l := optsOf qs) (i := k) (by simpa using hkq)
              rw [hqs] at this
              injection this with this
              exact this.symm
            rw [e1, e2, hyes]
          have HTk := Lib.hid hTk
          clear hyes hTk hps hqs HT
          go_wp2_with fail
          go_roundw
          case rel => exact ⟨k + 1, by omega, by go_num, HTk.out, HK2.out⟩
          case measure => simp [intOf]; omega
      · have hkk : k = ps.length := by omega
        have hyes : decide (optsOf ps = optsOf qs) = true := by
          rw [decide_eq_true_eq]
          have h := HT.out
          rw [List.take_of_length_le (by simp; omega), List.take_of_length_le (by simp; have := HL.out; omega)] at h
          exact h
        have HYES := Lib.hid hyes
        subst hkk
        clear hyes hT hK hkl hk HT
        go_wp2
        go_ret
        exact ⟨by rw [HYES.out]; rfl, HK.out⟩
  · have e1 : ((ps.length : Int) != (qs.length : Int)) = true := by rw [bne_iff_ne]; omega
    have hno : decide (optsOf ps = optsOf qs) = false := by
      rw [decide_eq_false_iff_not]
      intro he
      have := congrArg List.length he
      simp at this
      exact hl this
    have HNO := Lib.hid hno
    clear hno hl
    go_enter Tryz.func17, Tryz.ntmps17
    go_wp2
    go_ret
    exact ⟨by rw [HNO.out]; rfl, Keeps.refl _ _⟩
end Go.Proofs.YtjomcffhbaplcaaGreatDoor
