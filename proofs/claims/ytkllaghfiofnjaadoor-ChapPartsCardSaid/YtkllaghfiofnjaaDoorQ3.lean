/- A region that asks the tape for its order and whose last operation, for which all others are waited, may write what the others read: a condition S is shown behind each of the others alone. -/
import Derived.Deep.RegionHeld3
import Derived.WalkKit
import Derived.Test.YtkllaghfiofnjaaDoorQ2
import Derived.Laws.BitsAllLaws
import Derived.Test.YtkllaghfiofnjaaDoorQ1
namespace Go.Proofs.YtkllaghfiofnjaaDoor
section
variable {P : Program} {ops : Array Oper} {Q : Exit → Act → World → Prop} {md : Region.Mode} {S : World → Prop} {z : Nat}

/-- Whatever order is picked from here on; behind every operation but z the condition holds. -/
def wpAnyZ (P : Program) (md : Region.Mode) (ops : Array Oper) (Q : Exit → Act → World → Prop) (S : World → Prop) (z : Nat) : Nat → Array Bool → Act → World → Prop
  | 0, listed, a, w => Region.ready md ops listed = [] ∧ Q .normal a w
  | fuel + 1, listed, a, w =>
    (Region.ready md ops listed = [] → Q .normal a w) ∧
    ∀ i ∈ Region.ready md ops listed, wpOp P ops Q i (fun a' w' => (i ≠ z → S w') ∧ wpAnyZ P md ops Q S z fuel (listed.setIfInBounds i true) a' w') a w

theorem wpAny_of_Z : ∀ (fuel : Nat) (listed : Array Bool) (a : Act) (w : World), wpAnyZ P md ops Q S z fuel listed a w → wpAny P md ops Q fuel listed a w
  | 0, _, _, _, h => h
  | fuel + 1, _, _, _, h => ⟨h.1, fun i hi => wpOp_mono (fun a' w' h' => wpAny_of_Z fuel _ a' w' h'.2) (h.2 i hi)⟩

/-- z waits for i, by edges one behind the other. -/
inductive Waits (md : Region.Mode) (ops : Array Oper) (z : Nat) : Nat → Prop
  | one {o : Oper} {e : Edge} (ho : ops[z]? = some o) (he : e ∈ o.after) (hb : Region.binds md e = true) : Waits md ops z e.on
  | more {k : Nat} {o : Oper} {e : Edge} (h : Waits md ops z k) (ho : ops[k]? = some o) (he : e ∈ o.after) (hb : Region.binds md e = true) : Waits md ops z e.on
/-- The edges of one are marked. -/
def markAll (md : Region.Mode) : List Edge → Array Bool → Array Bool
  | [], r => r
  | e :: es, r => markAll md es (if Region.binds md e = true then r.setIfInBounds e.on true else r)
/-- From the last one down. -/
def reachDown (md : Region.Mode) (ops : Array Oper) : Nat → Array Bool → Array Bool
  | 0, r => r
  | k + 1, r => reachDown md ops k (if r.getD k false = true then (match ops[k]? with | some o => markAll md o.after.toList r | none => r) else r)
def waitsFor (md : Region.Mode) (ops : Array Oper) (z i : Nat) : Bool := (reachDown md ops ops.size ((Array.replicate ops.size false).setIfInBounds z true)).getD i false && i != z
theorem getD_set_cases {r : Array Bool} {i j : Nat} (h : (r.setIfInBounds i true).getD j false = true) : j = i ∨ r.getD j false = true := by
  by_cases hij : i = j
  · exact .inl hij.symm
  · rw [getD_set_ne false hij] at h
    exact .inr h
theorem markAll_sound {z : Nat} (hz : ∀ e, Region.binds md e = true → (∃ k o, ops[k]? = some o ∧ e ∈ o.after ∧ (k = z ∨ Waits md ops z k)) → Waits md ops z e.on) :
    ∀ (es : List Edge) (r : Array Bool), (∀ e ∈ es, ∃ k o, ops[k]? = some o ∧ e ∈ o.after ∧ (k = z ∨ Waits md ops z k)) → (∀ j, r.getD j false = true → j = z ∨ Waits md ops z j) →
      ∀ j, (markAll md es r).getD j false = true → j = z ∨ Waits md ops z j
  | [], _, _, hr => hr
  | e :: es, r, he, hr => by
    refine markAll_sound hz es _ (fun e' h' => he e' (by simp [h'])) (fun j hj => ?_)
    split at hj
    · rename_i hb
      rcases getD_set_cases hj with rfl | hj
      · exact .inr (hz e hb (he e (by simp)))
      · exact hr j hj
    · exact hr j hj
theorem waits_of_edge {z : Nat} (e : Edge) (hb : Region.binds md e = true) (h : ∃ k o, ops[k]? = some o ∧ e ∈ o.after ∧ (k = z ∨ Waits md ops z k)) : Waits md ops z e.on := by
  obtain ⟨k, o, ho, he, rfl | hk⟩ := h
  · exact .one ho he hb
  · exact .more hk ho he hb
theorem reachDown_sound {z : Nat} : ∀ (k : Nat) (r : Array Bool), (∀ j, r.getD j false = true → j = z ∨ Waits md ops z j) → ∀ j, (reachDown md ops k r).getD j false = true → j = z ∨ Waits md ops z j
  | 0, _, hr => hr
  | k + 1, r, hr => by
    refine reachDown_sound k _ (fun j hj => ?_)
    split at hj
    · rename_i hk
      cases ho : ops[k]? with
      | none => rw [ho] at hj; exact hr j hj
      | some o =>
        rw [ho] at hj
        exact markAll_sound (fun e hb h => waits_of_edge e hb h) o.after.toList r (fun e he => ⟨k, o, ho, by simpa using he, hr k hk⟩) hr j hj
    · exact hr j hj
theorem rep_false (n j : Nat) : (Array.replicate n false).getD j false = false := by
  rw [Array.getD_eq_getD_getElem?, Array.getElem?_replicate]
  split <;> rfl
theorem waits_of_waitsFor {z i : Nat} (h : waitsFor md ops z i = true) : Waits md ops z i := by
  unfold waitsFor at h
  simp only [Bool.and_eq_true, bne_iff_ne, ne_eq] at h
  rcases reachDown_sound (md := md) (ops := ops) (z := z) ops.size _ (fun j hj => by
    rcases getD_set_cases hj with rfl | hj
    · exact .inl rfl
    · rw [rep_false] at hj
      cases hj) i h.1 with h1 | h1
  · exact absurd h1 h.2
  · exact h1
/-- What has come up has had all that it waits for come up. -/
def Closed (md : Region.Mode) (ops : Array Oper) (listed : Array Bool) : Prop :=
  ∀ (j : Nat) (o : Oper), ops[j]? = some o → listed.getD j false = true → ∀ e ∈ o.after, Region.binds md e = true → listed.getD e.on false = true
def closedB (md : Region.Mode) (ops : Array Oper) (listed : Array Bool) : Bool :=
  (List.range ops.size).all fun j => !listed.getD j false || match ops[j]? with
    | none => true
    | some o => o.after.all fun e => !Region.binds md e || listed.getD e.on false
theorem closed_of {listed : Array Bool} (h : closedB md ops listed = true) : Closed md ops listed := by
  intro j o ho hl e he hb
  simp only [closedB, List.all_eq_true, List.mem_range] at h
  have := h j (Array.getElem?_eq_some_iff.1 ho).1
  rw [hl, ho] at this
  simp only [Bool.not_true, Bool.false_or] at this
  have := Array.all_eq_true'.1 this e he
  rw [hb] at this
  simpa using this
theorem Closed.set {listed : Array Bool} (h : Closed md ops listed) {i : Nat} (hr : i ∈ Region.ready md ops listed) : Closed md ops (listed.setIfInBounds i true) := by
  intro j o ho hl e he hb
  by_cases hij : i = j
  · subst hij
    obtain ⟨_, o', ho', hall⟩ := mem_ready.1 hr
    rw [ho] at ho'
    injection ho' with ho'
    subst ho'
    exact getD_set_true (hall e he hb)
  · rw [getD_set_ne false hij] at hl
    exact getD_set_true (h j o ho hl e he hb)
theorem waits_listed {listed : Array Bool} (hc : Closed md ops listed) {z i : Nat} (h : Waits md ops z i) (hz : ∀ o, ops[z]? = some o → ∀ e ∈ o.after, Region.binds md e = true → listed.getD e.on false = true) : listed.getD i false = true := by
  induction h with
  | one ho he hb => exact hz _ ho _ he hb
  | more _ ho he hb ih => exact hc _ _ ho ih _ he hb
theorem waitsFor_not_ready {i : Nat} {listed : Array Bool} (hc : Closed md ops listed) (h : waitsFor md ops z i = true) (hi : listed.getD i true = false) (hs : i < listed.size) : z ∉ Region.ready md ops listed := by
  intro hz
  obtain ⟨_, o, ho, hall⟩ := mem_ready.1 hz
  have h1 := waits_listed hc (waits_of_waitsFor h) (fun o' ho' e he hb => by
    rw [ho] at ho'
    injection ho' with ho'
    subst ho'
    exact hall e he hb)
  simp [hs] at h1 hi
  rw [hi] at h1
  cases h1

theorem wpAnyZ_first {i : Nat} {oi : Oper} {v : Value} (hi : ops[i]? = some oi) (hsel : ∀ (j : Nat) (o : Oper) cs b, ops[j]? = some o → o.op ≠ .select cs b)
    (hQ : ∀ c a w, Q (.panic c) (a.put oi.dst v) w → Q (.panic c) a w) (hz : waitsFor md ops z i = true) :
    ∀ (fuel : Nat) (listed : Array Bool) (a : Act) (w : World),
      (∀ j oj, ops[j]? = some oj → j ≠ i → listed.getD j true = false → (∀ e ∈ oj.after, Region.binds md e = true → e.on ≠ i) → oi.apart ops oj = true) →
      Closed md ops listed → i < listed.size → i ∈ Region.ready md ops listed → YieldsIf P ops S oi v a → S w →
      wpAnyZ P md ops Q S z fuel (listed.setIfInBounds i true) (a.put oi.dst v) w → wpAnyZ P md ops Q S z (fuel + 1) listed a w := by
  intro fuel
  induction fuel with
  | zero =>
    intro listed a w _ _ _ hr hy hS H
    refine ⟨fun h => (by rw [h] at hr; cases hr), fun j hj => ?_⟩
    by_cases hji : j = i
    · subst hji; exact hy.wpOp hi hS ⟨fun _ => hS, H⟩
    · have := ready_mono hj hji
      rw [H.1] at this
      cases this
  | succ fuel ih =>
    intro listed a w hfree hcl hsz hr hy hS H
    refine ⟨fun h => (by rw [h] at hr; cases hr), fun j hj => ?_⟩
    by_cases hji : j = i
    · subst hji; exact hy.wpOp hi hS ⟨fun _ => hS, H⟩
    · have hjz : j ≠ z := fun e => waitsFor_not_ready hcl hz (mem_ready.1 hr).1 hsz (e ▸ hj)
      have h1 := H.2 j (ready_mono hj hji)
      obtain ⟨hjun, oj, hoj, hall⟩ := mem_ready.1 hj
      have hnot : ∀ e ∈ oj.after, Region.binds md e = true → e.on ≠ i := fun e he hb heq => by
        have h1 := hall e he hb
        have h0 := (mem_ready.1 hr).1
        rw [heq] at h1
        simp [hsz] at h0 h1
        rw [h0] at h1
        cases h1
      have h2 := wpOp_putIf hoj (hfree j oj hoj hji hjun hnot) (fun cs b => hsel i oi cs b hi) (fun cs b => hsel j oj cs b hoj) hQ hy h1
      have hfree' : ∀ k ok, ops[k]? = some ok → k ≠ i → (listed.setIfInBounds j true).getD k true = false →
          (∀ e ∈ ok.after, Region.binds md e = true → e.on ≠ i) → oi.apart ops ok = true := fun k ok hk hki hun hno => by
        refine hfree k ok hk hki ?_ hno
        by_cases hjk : j = k
        · subst hjk; exact hjun
        · rw [getD_set_ne true hjk] at hun; exact hun
      refine wpOp_mono (fun a' w' h3 => ⟨fun _ => h3.2.1 hjz, ih (listed.setIfInBounds j true) a' w' hfree' (hcl.set hj) (by simpa using hsz) (ready_mono hr (Ne.symm hji)) h3.1 (h3.2.1 hjz) ?_⟩) h2
      rw [Array.setIfInBounds_comm _ _ hji]
      exact h3.2.2

/-- Take number i first. -/
theorem wpAnyZ_take {i : Nat} {oi : Oper} {v : Value} {fuel : Nat} {listed : Array Bool} {a : Act} {w : World} (hi : ops[i]? = some oi)
    (hc : (Region.noSelect ops && Region.free md ops listed i && (Region.ready md ops listed).contains i && waitsFor md ops z i && decide (i < listed.size) && closedB md ops listed) = true)
    (hQ : ∀ c a w, Q (.panic c) (a.put oi.dst v) w → Q (.panic c) a w) (hy : YieldsIf P ops S oi v a) (hS : S w)
    (h : wpAnyZ P md ops Q S z fuel (listed.setIfInBounds i true) (a.put oi.dst v) w) : wpAnyZ P md ops Q S z (fuel + 1) listed a w := by
  simp only [Bool.and_eq_true, decide_eq_true_eq] at hc
  obtain ⟨⟨⟨⟨⟨h1, h2⟩, h3⟩, h4⟩, h5⟩, h6⟩ := hc
  exact wpAnyZ_first hi (Region.noSelect_spec h1) hQ h4 fuel listed a w (Region.free_spec hi h2) (closed_of h6) h5 (by simpa using h3) hy hS h

/-- The one that may come up, and all that follows. -/
theorem wpAnyZ_one {i : Nat} {o : Oper} {fuel : Nat} {listed : Array Bool} {a : Act} {w : World} (hr : Region.ready md ops listed = [i]) (ho : ops[i]? = some o)
    (h : ∀ K' : Act → World → Prop, Shut (∀ a w, (i ≠ z → S w) → wpAnyZ P md ops Q S z fuel (listed.setIfInBounds i true) a w → K' a w) →
      if Region.wanted o (yielded ops a.tmps) = true then Oper.wp P o a w K' Q else K' (a.put o.dst undef) w) : wpAnyZ P md ops Q S z (fuel + 1) listed a w :=
  ⟨fun h0 => (by rw [h0] at hr; cases hr), fun j hj => by
    rw [hr] at hj
    obtain rfl : j = i := by simpa using hj
    exact wpOp_step ho (fun K' hK => h K' (fun a w hS hW => hK a w ⟨hS, hW⟩))⟩

/-- The first n have come up. -/
def marks (size : Nat) : Nat → Array Bool
  | 0 => Array.replicate size false
  | n + 1 => (marks size n).setIfInBounds n true
/-- The walk in the text's order: number n yields its value in every world that meets S. -/
theorem wpAnyZ_next {n size : Nat} {oi : Oper} {v : Value} {fuel : Nat} {a : Act} {w : World} (hi : ops[n]? = some oi)
    (hc : (Region.noSelect ops && Region.free md ops (marks size n) n && (Region.ready md ops (marks size n)).contains n && waitsFor md ops z n && decide (n < (marks size n).size) && closedB md ops (marks size n)) = true)
    (hQ : ∀ c a w, Q (.panic c) (a.put oi.dst v) w → Q (.panic c) a w) (hy : YieldsIf P ops S oi v a) (hS : S w)
    (h : wpAnyZ P md ops Q S z fuel (marks size (n + 1)) (a.put oi.dst v) w) : wpAnyZ P md ops Q S z (fuel + 1) (marks size n) a w :=
  wpAnyZ_take hi hc hQ hy hS h
/-- In the text's order: the one that may come up. -/
theorem wpAnyZ_step {n size : Nat} {o : Oper} {fuel : Nat} {a : Act} {w : World} (hr : Region.ready md ops (marks size n) = [n]) (ho : ops[n]? = some o)
    (h : ∀ K' : Act → World → Prop, Shut (∀ a w, (n ≠ z → S w) → wpAnyZ P md ops Q S z fuel (marks size (n + 1)) a w → K' a w) →
      if Region.wanted o (yielded ops a.tmps) = true then Oper.wp P o a w K' Q else K' (a.put o.dst undef) w) : wpAnyZ P md ops Q S z (fuel + 1) (marks size n) a w :=
  wpAnyZ_one hr ho h

theorem wpAnyZ_two {i j : Nat} {o o' : Oper} {fuel : Nat} {listed : Array Bool} {a : Act} {w : World} (hr : Region.ready md ops listed = [i, j]) (ho : ops[i]? = some o) (ho' : ops[j]? = some o')
    (h : ∀ K' : Act → World → Prop, Shut (∀ a w, (i ≠ z → S w) → wpAnyZ P md ops Q S z fuel (listed.setIfInBounds i true) a w → K' a w) →
      if Region.wanted o (yielded ops a.tmps) = true then Oper.wp P o a w K' Q else K' (a.put o.dst undef) w)
    (h' : ∀ K' : Act → World → Prop, Shut (∀ a w, (j ≠ z → S w) → wpAnyZ P md ops Q S z fuel (listed.setIfInBounds j true) a w → K' a w) →
      if Region.wanted o' (yielded ops a.tmps) = true then Oper.wp P o' a w K' Q else K' (a.put o'.dst undef) w) : wpAnyZ P md ops Q S z (fuel + 1) listed a w :=
  ⟨fun h0 => (by rw [h0] at hr; cases hr), fun k hk => by
    rw [hr] at hk
    rcases List.mem_cons.1 hk with rfl | hk
    · exact wpOp_step ho (fun K' hK => h K' (fun a w hS hW => hK a w ⟨hS, hW⟩))
    · obtain rfl : k = j := by simpa using hk
      exact wpOp_step ho' (fun K' hK => h' K' (fun a w hS hW => hK a w ⟨hS, hW⟩))⟩
theorem wpAnyZ_done {listed : Array Bool} {a : Act} {w : World} (hr : Region.ready md ops listed = []) (h : Q .normal a w) :
    ∀ fuel, wpAnyZ P md ops Q S z fuel listed a w
  | 0 => ⟨hr, h⟩
  | _ + 1 => ⟨fun _ => h, by rw [hr]; simp⟩

/-- From here on more may be asked of each world. -/
theorem wpAnyZ_more {S' : World → Prop} (hS : ∀ w, S' w → S w) : ∀ (fuel : Nat) (listed : Array Bool) (a : Act) (w : World), wpAnyZ P md ops Q S' z fuel listed a w → wpAnyZ P md ops Q S z fuel listed a w
  | 0, _, _, _, h => h
  | fuel + 1, _, _, _, h => ⟨h.1, fun i hi => wpOp_mono (fun a' w' h' => ⟨fun hz => hS _ (h'.1 hz), wpAnyZ_more hS fuel _ a' w' h'.2⟩) (h.2 i hi)⟩

theorem wp_region_Z {id : Nat} {a : Act} {w : World} (S : World → Prop) (z size : Nat) (hsz : ops.size = size) (hm : P.follows .mixedOrders = true) (hS : S w.drew)
    (h : Go.RowKit.Hid (S w.drew) → wpAnyZ P .any ops Q S z size (marks size 0) a w.drew) : (Code.region id ops true).wp P Q a w :=
  wp_region_any hm (by rw [hsz]; exact wpAny_of_Z size _ _ _ (h hS))
end
end Go.Proofs.YtkllaghfiofnjaaDoor
/- The document's letter: the first letter of a string. -/
namespace Go.Proofs.YtkllaghfiofnjaaDoor
open Go.RowKit
theorem str_at (s : ByteArray) (l : List UInt8) (hl : s.data.toList = l) (k : Nat) (hk : k < s.size) : (s[k]'hk).toNat = (l.getD k 0).toNat := by
  subst hl
  have e : s.data.toList[k]? = some s[k] := by
    rw [List.getElem?_eq_getElem (by simpa using hk)]; rfl
  rw [List.getD_eq_getElem?_getD, e]; rfl
/-- A byte that follows, by its two first bits. -/
theorem top2_u8 (c : UInt8) : bits .and .u8 (c.toNat : Int) 192 = ((64 * (c.toNat / 64) : Nat) : Int) := by
  have h := u8_and_nat c.toNat 192 c.toNat_lt (by omega)
  have e : ∀ n : Fin 256, n.val &&& 192 = 64 * (n.val / 64) := by decide +kernel
  rw [e ⟨c.toNat, c.toNat_lt⟩] at h
  exact h
theorem low6_u8 (c : UInt8) : bits .and .u8 (c.toNat : Int) 63 = ((c.toNat % 64 : Nat) : Int) := by
  have h := u8_and_nat c.toNat 63 c.toNat_lt (by omega)
  rw [show (63 : Nat) = 2 ^ 6 - 1 by rfl, Nat.and_two_pow_sub_one_eq_mod] at h
  exact h
theorem low_i64 (b n : Nat) (hb : b < 256) (hn : n ≤ 5) : bits .and .i64 (b : Int) ((2 ^ n - 1 : Nat) : Int) = ((b % 2 ^ n : Nat) : Int) := by
  have h1 : (2 : Nat) ^ n ≤ 2 ^ 5 := Nat.pow_le_pow_right (by omega) hn
  rw [i64_and_nat b (2 ^ n - 1) (by omega) (by omega), Nat.and_two_pow_sub_one_eq_mod]
set_option maxRecDepth 100000 in
set_option maxHeartbeats 4000000 in
theorem letter_any (s : ByteArray) (l : List UInt8) (hl : s.data.toList = l) (hne : 0 < l.length) (hsz : l.length ≤ 1000000) (w : World) :
    Calls Tryd.prog 68 #[.string s] w fun e w' => e = .returned (.tuple #[.int .i64 (((Pure.letter l).1 : Nat) : Int), .int .i64 (((Pure.letter l).2 : Nat) : Int)]) ∧ Keeps nobody w w' := by
  have hs : s.size = l.length := by rw [← hl]; simp
  have h0 : 0 < s.size := by omega
  obtain ⟨B, hB⟩ : ∃ B, B = (l.getD 0 0).toNat := ⟨_, rfl⟩
  have hB2 : B < 256 := by rw [hB]; exact UInt8.toNat_lt _
  have hsB : (s[0]'h0).toNat = B := by rw [hB]; exact str_at s l hl 0 h0
  have HB := Lib.hid hB
  have HL := Lib.hid hl
  have HSZ := Lib.hid hs
  clear hB hl
  go_enter Tryd.func68, Tryd.ntmps68
  go_upto_region 2 with fail
  by_cases hb : B < 128
  · have hlt := Pure.letter_plain l (by rw [← HB.out]; exact hb)
    rw [← HB.out] at hlt
    have HLT := Lib.hid hlt
    clear hlt
    go_wp2
    go_ret2
    exact ⟨by rw [HLT.out]; rfl, Keeps.refl _ _⟩
  · have hb1 : ¬ (B : Int) < 128 := by omega
    have H128 := Lib.hid (show 128 ≤ B by omega)
    clear hb
    go_upto_block 0 with fail
    go_cut [5, 6] (fun n x wx => ∃ N X : Nat, n = .int .i64 (N : Int) ∧ x = .int .i64 (X : Int) ∧ Pure.head B = (N, X) ∧ wx = w)
    case first =>
      rcases (show B < 194 ∨ (194 ≤ B ∧ B ≤ 223) ∨ (224 ≤ B ∧ B ≤ 239) ∨ (240 ≤ B ∧ B ≤ 244) ∨ 244 < B by omega) with hc | hc | hc | hc | hc
      · have d0 : decide ((194 : Int) ≤ (B : Int)) = false := decide_eq_false (by omega)
        have d1 : decide ((224 : Int) ≤ (B : Int)) = false := decide_eq_false (by omega)
        have d2 : decide ((240 : Int) ≤ (B : Int)) = false := decide_eq_false (by omega)
        have hh : Pure.head B = (0, 0) := by
          rcases Pure.head_cases B with ⟨e, h⟩ | ⟨e, h⟩ | ⟨e, h⟩ | ⟨e, h⟩ <;> first | exact e | (exfalso; omega)
        have HH := Lib.hid hh
        clear hh hc
        go_wp2
        go_meet
        exact ⟨0, 0, rfl, rfl, HH.out, rfl⟩
      · have d0 : decide ((194 : Int) ≤ (B : Int)) = true := decide_eq_true (by omega)
        have d1 : decide ((B : Int) ≤ 223) = true := decide_eq_true (by omega)
        obtain ⟨X, hX⟩ : ∃ X, X = B % 32 := ⟨_, rfl⟩
        have e1 : bits .and .i64 (B : Int) 31 = (X : Int) := by
          have h := low_i64 B 5 hB2 (by omega)
          rw [hX]; exact h
        have hh : Pure.head B = (2, X) := by
          rw [hX]
          rcases Pure.head_cases B with ⟨e, h⟩ | ⟨e, h⟩ | ⟨e, h⟩ | ⟨e, h⟩ <;> first | exact e | (exfalso; omega)
        have HH := Lib.hid hh
        clear hh hX hc
        go_wp2
        go_meet
        exact ⟨2, X, rfl, rfl, HH.out, rfl⟩
      · have d0 : decide ((194 : Int) ≤ (B : Int)) = true := decide_eq_true (by omega)
        have d1 : decide ((B : Int) ≤ 223) = false := decide_eq_false (by omega)
        have d2 : decide ((224 : Int) ≤ (B : Int)) = true := decide_eq_true (by omega)
        have d3 : decide ((B : Int) ≤ 239) = true := decide_eq_true (by omega)
        obtain ⟨X, hX⟩ : ∃ X, X = B % 16 := ⟨_, rfl⟩
        have e1 : bits .and .i64 (B : Int) 15 = (X : Int) := by
          have h := low_i64 B 4 hB2 (by omega)
          rw [hX]; exact h
        have hh : Pure.head B = (3, X) := by
          rw [hX]
          rcases Pure.head_cases B with ⟨e, h⟩ | ⟨e, h⟩ | ⟨e, h⟩ | ⟨e, h⟩ <;> first | exact e | (exfalso; omega)
        have HH := Lib.hid hh
        clear hh hX hc
        go_wp2
        go_meet
        exact ⟨3, X, rfl, rfl, HH.out, rfl⟩
      · have d0 : decide ((194 : Int) ≤ (B : Int)) = true := decide_eq_true (by omega)
        have d1 : decide ((B : Int) ≤ 223) = false := decide_eq_false (by omega)
        have d2 : decide ((224 : Int) ≤ (B : Int)) = true := decide_eq_true (by omega)
        have d3 : decide ((B : Int) ≤ 239) = false := decide_eq_false (by omega)
        have d4 : decide ((240 : Int) ≤ (B : Int)) = true := decide_eq_true (by omega)
        have d5 : decide ((B : Int) ≤ 244) = true := decide_eq_true (by omega)
        obtain ⟨X, hX⟩ : ∃ X, X = B % 8 := ⟨_, rfl⟩
        have e1 : bits .and .i64 (B : Int) 7 = (X : Int) := by
          have h := low_i64 B 3 hB2 (by omega)
          rw [hX]; exact h
        have hh : Pure.head B = (4, X) := by
          rw [hX]
          rcases Pure.head_cases B with ⟨e, h⟩ | ⟨e, h⟩ | ⟨e, h⟩ | ⟨e, h⟩ <;> first | exact e | (exfalso; omega)
        have HH := Lib.hid hh
        clear hh hX hc
        go_wp2
        go_meet
        exact ⟨4, X, rfl, rfl, HH.out, rfl⟩
      · have d0 : decide ((194 : Int) ≤ (B : Int)) = true := decide_eq_true (by omega)
        have d1 : decide ((B : Int) ≤ 223) = false := decide_eq_false (by omega)
        have d2 : decide ((224 : Int) ≤ (B : Int)) = true := decide_eq_true (by omega)
        have d3 : decide ((B : Int) ≤ 239) = false := decide_eq_false (by omega)
        have d4 : decide ((240 : Int) ≤ (B : Int)) = true := decide_eq_true (by omega)
        have d5 : decide ((B : Int) ≤ 244) = false := decide_eq_false (by omega)
        have hh : Pure.head B = (0, 0) := by
          rcases Pure.head_cases B with ⟨e, h⟩ | ⟨e, h⟩ | ⟨e, h⟩ | ⟨e, h⟩ <;> first | exact e | (exfalso; omega)
        have HH := Lib.hid hh
        clear hh hc
        go_wp2
        go_meet
        exact ⟨0, 0, rfl, rfl, HH.out, rfl⟩
    case rest =>
      obtain ⟨N, X, rfl, rfl, hH, rfl⟩ := hcut
      have hNX : N = 0 ∨ (2 ≤ N ∧ N ≤ 4 ∧ X < 32) := by
        rcases Pure.head_cases B with ⟨e, h⟩ | ⟨e, h⟩ | ⟨e, h⟩ | ⟨e, h⟩ <;> (rw [e] at hH; injection hH with h1 h2; omega)
      have HH := Lib.hid (show Pure.head (l.getD 0 0).toNat = (N, X) by rw [← HB.out]; exact hH)
      have HB128 := Lib.hid (show 128 ≤ (l.getD 0 0).toNat by rw [← HB.out]; exact H128.out)
      clear hH
      by_cases hN : N = 0
      · have hlt := Pure.letter_none l HB128.out (by rw [HH.out]; exact hN)
        have HLT := Lib.hid hlt
        subst hN
        clear hlt hNX
        go_wp2
        go_ret2
        exact ⟨by rw [HLT.out]; rfl, Keeps.refl _ _⟩
      · obtain ⟨n1, n2, n3⟩ : 2 ≤ N ∧ N ≤ 4 ∧ X < 32 := by omega
        have d0 : ((N : Int) == 0) = false := by rw [beq_eq_false_iff_ne]; omega
        clear hNX
        by_cases hlen : l.length < N
        · have hf : Pure.follows l (N - 1) = false := by
            unfold Pure.follows
            rw [decide_eq_false (by omega)]; rfl
          have hlt := Pure.letter_bad l HB128.out (N - 1) (by omega) (by rw [HH.out]; show N - 1 < N; omega) hf
          have HLT := Lib.hid hlt
          have d1 : decide ((s.size : Int) < (N : Int)) = true := decide_eq_true (by omega)
          have d3 : decide ((l.length : Int) < (N : Int)) = true := decide_eq_true (by omega)
          have d5 : decide (l.length < N) = true := decide_eq_true hlen
          clear hlt hf
          go_wp2
          go_ret2
          exact ⟨by rw [HLT.out]; rfl, Keeps.refl _ _⟩
        · have d1 : decide ((s.size : Int) < (N : Int)) = false := decide_eq_false (by omega)
          go_wp2_with fail
          clear d1 d0
          go_loopw [6, 7] (fun x i wr => ∃ k : Nat, 1 ≤ k ∧ k ≤ N ∧ i = .int .i64 (k : Int) ∧ x = .int .i64 ((Pure.sum6 l X (k - 1) : Nat) : Int) ∧ (∀ j, 1 ≤ j → j < k → Pure.follows l j = true) ∧ wr = wc) (fun _ i _ => N - (intOf i).toNat)
          case atStart => exact ⟨1, by omega, by omega, rfl, rfl, fun j h1 h2 => by omega, rfl⟩
          case round =>
            obtain ⟨k, hk1, hk, rfl, rfl, hfo, rfl⟩ := hrel
            have HFO := Lib.hid hfo
            clear hfo
            have hsum := Pure.sum6_lt l X (k - 1) n3 (by omega)
            by_cases hkl : k < N
            · have i0 : (0 : Int) ≤ (k : Int) := by omega
              have i1 : k < s.size := by omega
              have i2 : (k : Int) < (s.size : Int) := by omega
              have i3 : (k : Int) < (N : Int) := by omega
              obtain ⟨c, hc⟩ : ∃ c, c = l.getD k 0 := ⟨_, rfl⟩
              have hsk : (s[k]'i1).toNat = c.toNat := by rw [hc]; exact str_at s l HL.out k i1
              have hfk : Pure.follows l k = (c.toNat / 64 == 2) := by
                unfold Pure.follows
                rw [decide_eq_true (by omega), hc, Bool.true_and]
              have hsx : Pure.six l k = c.toNat % 64 := by rw [hc]; rfl
              have t2 := top2_u8 c
              have t6 := low6_u8 c
              have hcl := c.toNat_lt
              obtain ⟨C, hC⟩ : ∃ C, C = c.toNat := ⟨_, rfl⟩
              rw [← hC] at hsk hfk hsx t2 t6 hcl
              obtain ⟨D, hD⟩ : ∃ D, D = 64 * (C / 64) := ⟨_, rfl⟩
              rw [← hD] at t2
              obtain ⟨S, hS⟩ : ∃ S, S = Pure.sum6 l X (k - 1) := ⟨_, rfl⟩
              rw [← hS] at hsum ⊢
              by_cases hfl : C / 64 = 2
              · have d2 : ((D : Int) != 128) = false := by rw [show D = 128 by omega]; rfl
                obtain ⟨E, hE⟩ : ∃ E, E = C % 64 := ⟨_, rfl⟩
                rw [← hE] at t6 hsx
                obtain ⟨S', hS'⟩ : ∃ S', S' = Pure.sum6 l X k := ⟨_, rfl⟩
                have hSS : S' = S * 64 + E := by
                  rw [hS', hS, ← hsx]
                  obtain ⟨m, rfl⟩ : ∃ m, k = m + 1 := ⟨k - 1, by omega⟩
                  rfl
                have e3 : bits .or .i64 ((S : Int) * 64) (E : Int) = (S' : Int) := by
                  have h := i64_or_nat (S * 64) E (by omega) (by omega)
                  rw [show S * 64 ||| E = S' by rw [hSS, show (64 : Nat) = 2 ^ 6 by rfl, ← Nat.shiftLeft_eq, Nat.shiftLeft_add_eq_or_of_lt (show E < 2 ^ 6 by omega)]] at h
                  simpa using h
                have e4 : wrap64 (E : Int) = (E : Int) := IntWalk.wrap64_in _ (by omega)
                have HF := Lib.hid (show ∀ j, 1 ≤ j → j < k + 1 → Pure.follows l j = true from fun j h1 h2 => by
                  by_cases hj : j < k
                  · exact HFO.out j h1 hj
                  · rw [show j = k by omega, hfk, hfl]; rfl)
                have HS' := Lib.hid hS'
                clear hc hfk hsx hC hD hS hE hS' hSS hfl
                go_wp2_with fail
                go_roundw
                case rel => exact ⟨k + 1, by omega, by omega, by go_num, by rw [HS'.out]; rfl, HF.out, trivial⟩
                case measure => simp [intOf]; omega
              · have d2 : ((D : Int) != 128) = true := by rw [bne_iff_ne]; omega
                have hlt := Pure.letter_bad l HB128.out k hk1 (by rw [HH.out]; exact hkl) (by rw [hfk]; simpa using hfl)
                have HLT := Lib.hid hlt
                clear hlt hc hfk hsx hC hD hS hfl t6
                go_wp2
                go_ret2
                exact ⟨by rw [HLT.out]; rfl, Keeps.refl _ _⟩
            · have hkk : k = N := by omega
              subst hkk
              have hlt := Pure.letter_good l HB128.out k X (Pure.sum6 l X (k - 1)) HH.out (by omega) HFO.out rfl
              obtain ⟨V, hV⟩ : ∃ V, V = Pure.sum6 l X (k - 1) := ⟨_, rfl⟩
              rw [← hV] at hlt hsum ⊢
              clear hV hk hkl HFO HH HB128 hlen hk1
              rcases (show k = 2 ∨ k = 3 ∨ k = 4 by omega) with rfl | rfl | rfl
              · have el : Pure.least 2 = 128 := rfl
                rw [el] at hlt
                clear el
                by_cases c1 : V < 128
                · rw [if_neg (by omega)] at hlt
                  have HLT := Lib.hid hlt
                  have d1 : decide ((V : Int) < 128) = true := decide_eq_true (by omega)
                  clear hlt c1
                  go_wp2
                  go_ret2
                  exact ⟨by rw [HLT.out]; rfl, (Keeps.refl _ _).alloc _⟩
                have d1 : decide ((V : Int) < 128) = false := decide_eq_false (by omega)
                by_cases c2 : 1114111 < V
                · rw [if_neg (by omega)] at hlt
                  have HLT := Lib.hid hlt
                  have d2 : decide ((1114111 : Int) < (V : Int)) = true := decide_eq_true (by omega)
                  clear hlt c1 c2
                  go_wp2
                  go_ret2
                  exact ⟨by rw [HLT.out]; rfl, (Keeps.refl _ _).alloc _⟩
                have d2 : decide ((1114111 : Int) < (V : Int)) = false := decide_eq_false (by omega)
                by_cases c3 : 55296 ≤ V
                · have d3 : decide ((55296 : Int) ≤ (V : Int)) = true := decide_eq_true (by omega)
                  by_cases c4 : V ≤ 57343
                  · have d4 : decide ((V : Int) ≤ 57343) = true := decide_eq_true (by omega)
                    rw [if_neg (by omega)] at hlt
                    have HLT := Lib.hid hlt
                    clear hlt c1 c2 c3 c4
                    go_wp2
                    go_ret2
                    exact ⟨by rw [HLT.out]; rfl, (Keeps.refl _ _).alloc _⟩
                  · have d4 : decide ((V : Int) ≤ 57343) = false := decide_eq_false (by omega)
                    rw [if_pos (by omega)] at hlt
                    have HLT := Lib.hid hlt
                    clear hlt c1 c2 c3 c4
                    go_wp2
                    go_ret2
                    exact ⟨by rw [HLT.out]; rfl, (Keeps.refl _ _).alloc _⟩
                · have d3 : decide ((55296 : Int) ≤ (V : Int)) = false := decide_eq_false (by omega)
                  rw [if_pos (by omega)] at hlt
                  have HLT := Lib.hid hlt
                  clear hlt c1 c2 c3
                  go_wp2
                  go_ret2
                  exact ⟨by rw [HLT.out]; rfl, (Keeps.refl _ _).alloc _⟩
              · have el : Pure.least 3 = 2048 := rfl
                rw [el] at hlt
                clear el
                by_cases c1 : V < 2048
                · rw [if_neg (by omega)] at hlt
                  have HLT := Lib.hid hlt
                  have d1 : decide ((V : Int) < 2048) = true := decide_eq_true (by omega)
                  clear hlt c1
                  go_wp2
                  go_ret2
                  exact ⟨by rw [HLT.out]; rfl, (Keeps.refl _ _).alloc _⟩
                have d1 : decide ((V : Int) < 2048) = false := decide_eq_false (by omega)
                by_cases c2 : 1114111 < V
                · rw [if_neg (by omega)] at hlt
                  have HLT := Lib.hid hlt
                  have d2 : decide ((1114111 : Int) < (V : Int)) = true := decide_eq_true (by omega)
                  clear hlt c1 c2
                  go_wp2
                  go_ret2
                  exact ⟨by rw [HLT.out]; rfl, (Keeps.refl _ _).alloc _⟩
                have d2 : decide ((1114111 : Int) < (V : Int)) = false := decide_eq_false (by omega)
                by_cases c3 : 55296 ≤ V
                · have d3 : decide ((55296 : Int) ≤ (V : Int)) = true := decide_eq_true (by omega)
                  by_cases c4 : V ≤ 57343
                  · have d4 : decide ((V : Int) ≤ 57343) = true := decide_eq_true (by omega)
                    rw [if_neg (by omega)] at hlt
                    have HLT := Lib.hid hlt
                    clear hlt c1 c2 c3 c4
                    go_wp2
                    go_ret2
                    exact ⟨by rw [HLT.out]; rfl, (Keeps.refl _ _).alloc _⟩
                  · have d4 : decide ((V : Int) ≤ 57343) = false := decide_eq_false (by omega)
                    rw [if_pos (by omega)] at hlt
                    have HLT := Lib.hid hlt
                    clear hlt c1 c2 c3 c4
                    go_wp2
                    go_ret2
                    exact ⟨by rw [HLT.out]; rfl, (Keeps.refl _ _).alloc _⟩
                · have d3 : decide ((55296 : Int) ≤ (V : Int)) = false := decide_eq_false (by omega)
                  rw [if_pos (by omega)] at hlt
                  have HLT := Lib.hid hlt
                  clear hlt c1 c2 c3
                  go_wp2
                  go_ret2
                  exact ⟨by rw [HLT.out]; rfl, (Keeps.refl _ _).alloc _⟩
              · have el : Pure.least 4 = 65536 := rfl
                rw [el] at hlt
                clear el
                by_cases c1 : V < 65536
                · rw [if_neg (by omega)] at hlt
                  have HLT := Lib.hid hlt
                  have d1 : decide ((V : Int) < 65536) = true := decide_eq_true (by omega)
                  clear hlt c1
                  go_wp2
                  go_ret2
                  exact ⟨by rw [HLT.out]; rfl, (Keeps.refl _ _).alloc _⟩
                have d1 : decide ((V : Int) < 65536) = false := decide_eq_false (by omega)
                by_cases c2 : 1114111 < V
                · rw [if_neg (by omega)] at hlt
                  have HLT := Lib.hid hlt
                  have d2 : decide ((1114111 : Int) < (V : Int)) = true := decide_eq_true (by omega)
                  clear hlt c1 c2
                  go_wp2
                  go_ret2
                  exact ⟨by rw [HLT.out]; rfl, (Keeps.refl _ _).alloc _⟩
                have d2 : decide ((1114111 : Int) < (V : Int)) = false := decide_eq_false (by omega)
                by_cases c3 : 55296 ≤ V
                · have d3 : decide ((55296 : Int) ≤ (V : Int)) = true := decide_eq_true (by omega)
                  by_cases c4 : V ≤ 57343
                  · have d4 : decide ((V : Int) ≤ 57343) = true := decide_eq_true (by omega)
                    rw [if_neg (by omega)] at hlt
                    have HLT := Lib.hid hlt
                    clear hlt c1 c2 c3 c4
                    go_wp2
                    go_ret2
                    exact ⟨by rw [HLT.out]; rfl, (Keeps.refl _ _).alloc _⟩
                  · have d4 : decide ((V : Int) ≤ 57343) = false := decide_eq_false (by omega)
                    rw [if_pos (by omega)] at hlt
                    have HLT := Lib.hid hlt
                    clear hlt c1 c2 c3 c4
                    go_wp2
                    go_ret2
                    exact ⟨by rw [HLT.out]; rfl, (Keeps.refl _ _).alloc _⟩
                · have d3 : decide ((55296 : Int) ≤ (V : Int)) = false := decide_eq_false (by omega)
                  rw [if_pos (by omega)] at hlt
                  have HLT := Lib.hid hlt
                  clear hlt c1 c2 c3
                  go_wp2
                  go_ret2
                  exact ⟨by rw [HLT.out]; rfl, (Keeps.refl _ _).alloc _⟩
end Go.Proofs.YtkllaghfiofnjaaDoor
/- The document's Units: a secret's units. -/
namespace Go.Proofs.YtkllaghfiofnjaaDoor
open Go.RowKit
set_option maxRecDepth 100000 in
set_option maxHeartbeats 4000000 in
theorem units_any (s : ByteArray) (l : List UInt8) (hl : s.data.toList = l) (hsz : l.length ≤ 1000000) (w : World) :
    Calls Tryd.prog 51 #[.string s] w fun e w' => ∃ v, e = .returned (.tuple #[v, .int .i64 (((Pure.secret l).1 : Nat) : Int)]) ∧ w'.ownsRow w.heap.size 5 1 v (Pure.secret l).2.length (u8s (Pure.secret l).2) ∧ Below w.heap.size w w' := by
  have hs : s.size = l.length := by rw [← hl]; simp
  have HL := Lib.hid hl
  have HSZ := Lib.hid hs
  clear hl
  go_enter Tryd.func51, Tryd.ntmps51
  go_wp2_with fail
  go_loopw [4, 5] (fun v i wr => ∃ (k : Nat) (acc : List UInt8), k ≤ l.length ∧ i = .int .i64 (k : Int) ∧ wr.ownsRow w.heap.size 5 1 v acc.length (u8s acc) ∧ acc.length ≤ 4 * k ∧ Pure.units l = Pure.unitsFrom (l.drop k) acc ∧ Below w.heap.size w wr) (fun _ i _ => l.length - (intOf i).toNat)
  case atStart => exact ⟨0, [], by omega, rfl, World.ownsRow_nil _ _ _ _, by simp, rfl, Below.refl _ _⟩
  case round =>
    obtain ⟨k, acc, hk, rfl, hW, hal, hU, hK⟩ := hrel
    have HW := Lib.hid hW
    have HU := Lib.hid hU
    have HK := Lib.hid hK
    obtain ⟨A2, c2, rfl⟩ := own_form hW
    clear hW hU hK
    by_cases hkl : k < l.length
    · have i0 : (0 : Int) ≤ (k : Int) := by omega
      have i1 : (k : Int) ≤ (s.size : Int) := by omega
      have i2 : (k : Int) < (l.length : Int) := by omega
      have hne : l.drop k ≠ [] := by
        intro e
        have := congrArg List.length e
        rw [List.length_drop] at this
        simp at this
        omega
      have hx : (s.extract k l.length).data.toList = l.drop k := by
        have e : s = ⟨l.toArray⟩ := by rw [← HL.out]
        have e2 := ByteArray.extract_mk l k l.length
        rw [← e] at e2
        rw [e2]
        simp only
        exact List.take_of_length_le (by rw [List.length_drop]; omega)
      have HLet := Lib.hid (letter_any (s.extract k l.length) (l.drop k) hx (List.length_pos_iff.2 hne) (by rw [List.length_drop]; omega))
      obtain ⟨z1, z2⟩ := Pure.letter_size (l.drop k) hne
      have hn := Pure.letter_num (l.drop k)
      rw [List.length_drop] at z1
      have hbad := fun h => HU.out.trans (Pure.unitsFrom_bad acc hne h)
      have hgo := fun h => HU.out.trans (Pure.unitsFrom_step acc hne h)
      rw [List.drop_drop] at hgo
      obtain ⟨n, hn'⟩ : ∃ n, n = (Pure.letter (l.drop k)).1 := ⟨_, rfl⟩
      obtain ⟨z, hz'⟩ : ∃ z, z = (Pure.letter (l.drop k)).2 := ⟨_, rfl⟩
      rw [← hn'] at hn hgo
      rw [← hz'] at z1 z2 hbad hgo
      have HLet' := Lib.hid (show ∀ w, Calls Tryd.prog 68 #[.string (s.extract k l.length)] w fun e w' => e = .returned (.tuple #[.int .i64 (n : Int), .int .i64 (z : Int)]) ∧ Keeps nobody w w' by rw [hn', hz']; exact HLet.out)
      have HBAD := Lib.hid hbad
      have HGO := Lib.hid hgo
      clear hx hbad hgo hn' hz' HLet HU hne
      have hsz1 := HSZ.out
      go_wp2_with fail
      refine (HLet'.out _).mono ?_
      rintro e w1 ⟨rfl, hk1⟩
      have HK1 := Lib.hid (Below.quiet HK.out hk1 HK.out.size)
      have HW1 := Lib.hid (own_quiet HW.out hk1)
      have hszw := HK1.out.size
      clear hk1 HLet' HK HW
      by_cases hz : z = 0
      · subst hz
        have hsec := Pure.secret_none (HBAD.out rfl)
        have HSEC := Lib.hid hsec
        clear hsec HGO
        go_wp2
        go_ret2
        exact ⟨_, by rw [HSEC.out]; rfl, by rw [HSEC.out]; exact World.ownsRow_nil _ _ _ _, HK1.out⟩
      have d0 : ((z : Int) == 0) = false := by rw [beq_eq_false_iff_ne]; omega
      have HGO' := Lib.hid (HGO.out hz)
      obtain ⟨Z, hZ⟩ : ∃ Z, Z = k + z := ⟨_, rfl⟩
      have ez : (k : Int) + (z : Int) = (Z : Int) := by omega
      have hz4 : Z ≤ l.length := by omega
      have HZ := Lib.hid hZ
      clear HBAD HGO hZ
      by_cases hbig : 65535 < n
      · have hun : Pure.unitsOf n = [UInt8.ofNat ((55296 + (n - 65536) / 1024) % 256), UInt8.ofNat ((55296 + (n - 65536) / 1024) / 256 % 256), UInt8.ofNat ((56320 + (n - 65536) % 1024) % 256), UInt8.ofNat ((56320 + (n - 65536) % 1024) / 256 % 256)] := by
          unfold Pure.unitsOf; rw [if_pos hbig]; rfl
        have dn : decide ((65535 : Int) < (n : Int)) = true := decide_eq_true (by omega)
        obtain ⟨m, hm⟩ : ∃ m, m = n - 65536 := ⟨_, rfl⟩
        rw [← hm] at hun
        have em : (n : Int) - 65536 = (m : Int) := by omega
        obtain ⟨a, ha⟩ : ∃ a, a = 55296 + m / 1024 := ⟨_, rfl⟩
        obtain ⟨b, hb⟩ : ∃ b, b = 56320 + m % 1024 := ⟨_, rfl⟩
        rw [← ha, ← hb] at hun
        have ea : 55296 + (m : Int) / 1024 = (a : Int) := by omega
        have etm : (m : Int).tmod 1024 = (m : Int) % 1024 := Int.tmod_eq_emod_of_nonneg (by omega)
        have eb : 56320 + (m : Int) % 1024 = (b : Int) := by omega
        have hab : a < 65536 := by omega
        have hbb : b < 65536 := by omega
        have hm2 : m ≤ 1048575 := by omega
        obtain ⟨x1, hx1⟩ : ∃ x, x = UInt8.ofNat (a % 256) := ⟨_, rfl⟩
        obtain ⟨x2, hx2⟩ : ∃ x, x = UInt8.ofNat (a / 256 % 256) := ⟨_, rfl⟩
        obtain ⟨x3, hx3⟩ : ∃ x, x = UInt8.ofNat (b % 256) := ⟨_, rfl⟩
        obtain ⟨x4, hx4⟩ : ∃ x, x = UInt8.ofNat (b / 256 % 256) := ⟨_, rfl⟩
        rw [← hx1, ← hx2, ← hx3, ← hx4] at hun
        have f1 : (a : Int) % 256 = (x1.toNat : Int) := by rw [hx1, UInt8.toNat_ofNat']; omega
        have f2 : (a : Int) / 256 = (x2.toNat : Int) := by rw [hx2, UInt8.toNat_ofNat']; omega
        have f3 : (b : Int) % 256 = (x3.toNat : Int) := by rw [hx3, UInt8.toNat_ofNat']; omega
        have f4 : (b : Int) / 256 = (x4.toNat : Int) := by rw [hx4, UInt8.toNat_ofNat']; omega
        have HUN := Lib.hid hun
        clear hun hm ha hb hx1 hx2 hx3 hx4 hbig
        go_wp2_with (at_builtin; refine stopHere ?_)
        unfold Hid
        refine wp_append_u8 rfl (.tmp 36) (.tmp 47) rfl w.heap.size (.slice A2 acc.length c2) acc.length acc rfl rfl (own_grown HW1.out (World.grownBy_alloc w1 _ none) (by simp)) _ _ [x1, x2, x3, x4] rfl (row_new w1 [x1, x2, x3, x4] _ 4 rfl rfl (by simp)) (by simp; omega) (by simp; omega) ?_
        intro v3 w3 hown3 hg3 hat3
        have HB3 := Lib.hid (show Below w.heap.size w w3 from ((HK1.out.alloc HK1.out.size _).grown hg3 (by simp; have := HK1.out.size; omega) (fun k hk => ownsRow_ge HW1.out k hk)))
        have HO3 := Lib.hid hown3
        clear hown3 hg3 hat3
        go_wp2_with fail
        go_roundw
        case rel => exact ⟨Z, acc ++ [x1, x2, x3, x4], hz4, rfl, HO3.out, by rw [List.length_append]; simp only [List.length_cons, List.length_nil]; omega, by rw [HZ.out, ← HUN.out]; exact HGO'.out, HB3.out⟩
        case measure => simp [intOf]; omega
      · have hun : Pure.unitsOf n = [UInt8.ofNat (n % 256), UInt8.ofNat (n / 256 % 256)] := by
          unfold Pure.unitsOf; rw [if_neg hbig]; rfl
        have dn : decide ((65535 : Int) < (n : Int)) = false := decide_eq_false (by omega)
        obtain ⟨x1, hx1⟩ : ∃ x, x = UInt8.ofNat (n % 256) := ⟨_, rfl⟩
        obtain ⟨x2, hx2⟩ : ∃ x, x = UInt8.ofNat (n / 256 % 256) := ⟨_, rfl⟩
        rw [← hx1, ← hx2] at hun
        have f1 : (n : Int) % 256 = (x1.toNat : Int) := by rw [hx1, UInt8.toNat_ofNat']; omega
        have f2 : (n : Int) / 256 = (x2.toNat : Int) := by rw [hx2, UInt8.toNat_ofNat']; omega
        have HUN := Lib.hid hun
        clear hun hx1 hx2
        go_wp2_with (at_builtin; refine stopHere ?_)
        unfold Hid
        refine wp_append_u8 rfl (.tmp 49) (.tmp 55) rfl w.heap.size (.slice A2 acc.length c2) acc.length acc rfl rfl (own_grown HW1.out (World.grownBy_alloc w1 _ none) (by simp)) _ _ [x1, x2] rfl (row_new w1 [x1, x2] _ 2 rfl rfl (by simp)) (by simp; omega) (by simp; omega) ?_
        intro v3 w3 hown3 hg3 hat3
        have HB3 := Lib.hid (show Below w.heap.size w w3 from ((HK1.out.alloc HK1.out.size _).grown hg3 (by simp; have := HK1.out.size; omega) (fun k hk => ownsRow_ge HW1.out k hk)))
        have HO3 := Lib.hid hown3
        clear hown3 hg3 hat3
        go_wp2_with fail
        go_roundw
        case rel => exact ⟨Z, acc ++ [x1, x2], hz4, rfl, HO3.out, by rw [List.length_append]; simp only [List.length_cons, List.length_nil]; omega, by rw [HZ.out, ← HUN.out]; exact HGO'.out, HB3.out⟩
        case measure => simp [intOf]; omega
    · have hkk : k = l.length := by omega
      subst hkk
      have hu := HU.out
      rw [List.drop_length, Pure.unitsFrom_nil] at hu
      clear hkl hk
      by_cases hlong : 512 < acc.length
      · have hsec := Pure.secret_long hu hlong
        have HSEC := Lib.hid hsec
        have d1 : decide ((512 : Int) < (acc.length : Int)) = true := decide_eq_true (by omega)
        clear hsec hu HU
        go_wp2
        go_ret2
        exact ⟨_, by rw [HSEC.out]; rfl, by rw [HSEC.out]; exact World.ownsRow_nil _ _ _ _, HK.out⟩
      · have hsec := Pure.secret_some hu hlong
        have HSEC := Lib.hid hsec
        have d1 : decide ((512 : Int) < (acc.length : Int)) = false := decide_eq_false (by omega)
        clear hsec hu HU
        go_wp2
        go_ret2
        exact ⟨_, by rw [HSEC.out]; rfl, by rw [HSEC.out]; exact HW.out, HK.out⟩
end Go.Proofs.YtkllaghfiofnjaaDoor
/- Words of 32 bits as numbers of the model. -/
namespace Go.Proofs.YtkllaghfiofnjaaDoor
open Go.RowKit

theorem and_u32 (x y : UInt32) : bits .and .u32 (x.toNat : Int) (y.toNat : Int) = (((x &&& y).toNat : Nat) : Int) := by
  rw [u32_and_nat x.toNat y.toNat x.toNat_lt y.toNat_lt, UInt32.toNat_and]
theorem or_u32 (x y : UInt32) : bits .or .u32 (x.toNat : Int) (y.toNat : Int) = (((x ||| y).toNat : Nat) : Int) := by
  rw [u32_or_nat x.toNat y.toNat x.toNat_lt y.toNat_lt, UInt32.toNat_or]
theorem xor_u32 (x y : UInt32) : bits .xor .u32 (x.toNat : Int) (y.toNat : Int) = (((x ^^^ y).toNat : Nat) : Int) := by
  rw [u32_xor_nat x.toNat y.toNat x.toNat_lt y.toNat_lt, UInt32.toNat_xor]
theorem not_u32 (x : UInt32) : bits .xor .u32 IntKind.u32.max (x.toNat : Int) = (((~~~x).toNat : Nat) : Int) := by
  have h : (-1 : UInt32).toNat = 4294967295 := by decide
  have h2 : ~~~x = (-1 : UInt32) ^^^ x := by
    apply UInt32.eq_of_toBitVec_eq
    simp
  have := xor_u32 (-1) x
  rw [h] at this
  rw [h2, ← this]
  rfl
theorem add_u32 (x y : UInt32) : ((x.toNat : Int) + (y.toNat : Int)) % 4294967296 = (((x + y).toNat : Nat) : Int) := by
  rw [UInt32.toNat_add]
  omega
theorem shl_u32 (x : UInt32) (n : Nat) (hn : n < 32) : (x.toNat : Int) * 2 ^ n % 4294967296 = (((x <<< UInt32.ofNat n).toNat : Nat) : Int) := by
  rw [UInt32.toNat_shiftLeft]
  have : (UInt32.ofNat n).toNat % 32 = n := by simp; omega
  rw [this, Nat.shiftLeft_eq, Int.natCast_emod, Int.natCast_mul, Int.natCast_pow]
  rfl
theorem shr_u32 (x : UInt32) (n : Nat) (hn : n < 32) : (x.toNat : Int) / 2 ^ n = (((x >>> UInt32.ofNat n).toNat : Nat) : Int) := by
  rw [UInt32.toNat_shiftRight]
  have : (UInt32.ofNat n).toNat % 32 = n := by simp; omega
  rw [this, Nat.shiftRight_eq_div_pow, Int.natCast_ediv, Int.natCast_pow]
  rfl
theorem low_u32 (x : UInt32) : (x.toNat : Int) % 256 = ((x.toUInt8.toNat : Nat) : Int) := by
  rw [UInt32.toNat_toUInt8]
  omega
theorem wide_u8 (b : UInt8) : ((b.toNat : Nat) : Int) = ((b.toUInt32.toNat : Nat) : Int) := by simp
/-- The values of words. -/
abbrev u32s (l : List UInt32) : List Value := l.map fun b => Value.int .u32 b.toNat
theorem u32s_at (l : List UInt32) (j : Nat) (h : j < l.length) : (u32s l)[j]? = some (.int .u32 ((l.getD j 0).toNat)) := by
  rw [List.getElem?_map, List.getElem?_eq_getElem h, List.getD_eq_getElem?_getD, List.getElem?_eq_getElem h]; rfl
theorem u32s_set (l : List UInt32) (j : Nat) (x : UInt32) : (u32s l).toArray.setIfInBounds j (.int .u32 x.toNat) = (u32s (l.set j x)).toArray := by
  apply Array.toList_inj.1
  simp [List.map_set]
end Go.Proofs.YtkllaghfiofnjaaDoor
/- The digests of chapters 6 and 7 over lists of bytes: padding, words, steps, blocks. -/
namespace Go.Proofs.YtkllaghfiofnjaaDoor
namespace Pure
/-- Behind the byte 128: noughts till the length is 56 modulo 64. -/
def noughts (n : Nat) : Nat := (119 - n % 64) % 64
theorem noughts_spec (n : Nat) : (n + 1 + noughts n) % 64 = 56 := by unfold noughts; omega
theorem noughts_least (n k : Nat) (h : k < noughts n) : (n + 1 + k) % 64 ≠ 56 := by unfold noughts at h; omega
/-- The number of bits in eight bytes: byte i. -/
def lenByte (low : Bool) (n i : Nat) : UInt8 := UInt8.ofNat (8 * n / 2 ^ (if low then 8 * i else 56 - 8 * i))
def lenBytes (low : Bool) (n k : Nat) : List UInt8 := (List.range k).map (lenByte low n)
def pad (low : Bool) (b : List UInt8) : List UInt8 := b ++ [128] ++ List.replicate (noughts b.length) 0 ++ lenBytes low b.length 8
theorem pad_length (low : Bool) (b : List UInt8) : (pad low b).length = b.length + 1 + noughts b.length + 8 := by simp [pad, lenBytes]; omega
theorem pad_blocks (low : Bool) (b : List UInt8) : (pad low b).length % 64 = 0 := by
  rw [pad_length]
  have := noughts_spec b.length
  omega
theorem pad_le (low : Bool) (b : List UInt8) : (pad low b).length ≤ b.length + 72 := by
  rw [pad_length]
  unfold noughts
  omega
/-- A word turned left. -/
def left (x : UInt32) (n : Nat) : UInt32 := x <<< UInt32.ofNat n ||| x >>> UInt32.ofNat (32 - n)

/-- MD4's words of the block at 'at', behind i of its bytes. -/
def wordsLow (m : List UInt8) (at' : Nat) : Nat → List UInt32
  | 0 => List.replicate 16 0
  | i + 1 => (wordsLow m at' i).set (i / 4) ((wordsLow m at' i).getD (i / 4) 0 ||| (m.getD (at' + i) 0).toUInt32 <<< UInt32.ofNat (8 * (i % 4)))
theorem wordsLow_length (m : List UInt8) (at' : Nat) : ∀ i, (wordsLow m at' i).length = 16
  | 0 => rfl
  | i + 1 => by simp only [wordsLow, List.length_set]; exact wordsLow_length m at' i
/-- Four words. -/
structure W4 where
  a : UInt32
  b : UInt32
  c : UInt32
  d : UInt32
def md4F (s : Nat) (b c d : UInt32) : UInt32 := if s < 16 then b &&& c ||| ~~~b &&& d else if s < 32 then b &&& c ||| b &&& d ||| c &&& d else b ^^^ c ^^^ d
def md4T (s : Nat) : UInt32 := if s < 16 then 0 else if s < 32 then 0x5a827999 else 0x6ed9eba1
def md4Order : List Nat := [0, 1, 2, 3, 4, 5, 6, 7, 8, 9, 10, 11, 12, 13, 14, 15, 0, 4, 8, 12, 1, 5, 9, 13, 2, 6, 10, 14, 3, 7, 11, 15, 0, 8, 4, 12, 2, 10, 6, 14, 1, 9, 5, 13, 3, 11, 7, 15]
def md4Turns : List Nat := [3, 7, 11, 19, 3, 5, 9, 13, 3, 9, 11, 15]
def md4Step (x : List UInt32) (s : Nat) (v : W4) : W4 :=
  ⟨v.d, left (v.a + md4F s v.b v.c v.d + x.getD (md4Order.getD s 0) 0 + md4T s) (md4Turns.getD (s / 16 * 4 + s % 4) 0), v.b, v.c⟩
def md4Steps (x : List UInt32) (v : W4) : Nat → W4
  | 0 => v
  | s + 1 => md4Step x s (md4Steps x v s)
def md4Start : W4 := ⟨0x67452301, 0xefcdab89, 0x98badcfe, 0x10325476⟩
/-- The state behind k blocks. -/
def md4Blocks (m : List UInt8) : Nat → W4
  | 0 => md4Start
  | k + 1 =>
    let h := md4Blocks m k
    let v := md4Steps (wordsLow m (64 * k) 64) h 48
    ⟨h.a + v.a, h.b + v.b, h.c + v.c, h.d + v.d⟩
def W4.list (v : W4) : List UInt32 := [v.a, v.b, v.c, v.d]
/-- Byte i of the digest. -/
def outLow (h : List UInt32) (i : Nat) : UInt8 := (h.getD (i / 4) 0 >>> UInt32.ofNat (8 * (i % 4))).toUInt8
def md4 (b : List UInt8) : List UInt8 := (List.range 16).map (outLow (md4Blocks (pad true b) ((pad true b).length / 64)).list)
theorem md4_length (b : List UInt8) : (md4 b).length = 16 := by simp [md4]

/-- SHA-1's words of the block at 'at', behind i of its bytes, and behind t words. -/
def wordsHigh (m : List UInt8) (at' : Nat) : Nat → List UInt32
  | 0 => List.replicate 80 0
  | i + 1 => (wordsHigh m at' i).set (i / 4) ((wordsHigh m at' i).getD (i / 4) 0 <<< 8 ||| (m.getD (at' + i) 0).toUInt32)
theorem wordsHigh_length (m : List UInt8) (at' : Nat) : ∀ i, (wordsHigh m at' i).length = 80
  | 0 => rfl
  | i + 1 => by simp only [wordsHigh, List.length_set]; exact wordsHigh_length m at' i
def shaMore (w : List UInt32) : Nat → List UInt32
  | 0 => w
  | k + 1 =>
    let v := shaMore w k
    let t := 16 + k
    v.set t (left (v.getD (t - 3) 0 ^^^ v.getD (t - 8) 0 ^^^ v.getD (t - 14) 0 ^^^ v.getD (t - 16) 0) 1)
theorem shaMore_length (w : List UInt32) : ∀ k, (shaMore w k).length = w.length
  | 0 => rfl
  | k + 1 => by simp only [shaMore, List.length_set]; exact shaMore_length w k
structure W5 where
  a : UInt32
  b : UInt32
  c : UInt32
  d : UInt32
  e : UInt32
def shaF (t : Nat) (b c d : UInt32) : UInt32 := if t < 20 then b &&& c ||| ~~~b &&& d else if t < 40 then b ^^^ c ^^^ d else if t < 60 then b &&& c ||| b &&& d ||| c &&& d else b ^^^ c ^^^ d
def shaK (t : Nat) : UInt32 := if t < 20 then 0x5a827999 else if t < 40 then 0x6ed9eba1 else if t < 60 then 0x8f1bbcdc else 0xca62c1d6
def shaStep (w : List UInt32) (t : Nat) (v : W5) : W5 := ⟨left v.a 5 + shaF t v.b v.c v.d + v.e + shaK t + w.getD t 0, v.a, left v.b 30, v.c, v.d⟩
def shaSteps (w : List UInt32) (v : W5) : Nat → W5
  | 0 => v
  | t + 1 => shaStep w t (shaSteps w v t)
def shaStart : W5 := ⟨0x67452301, 0xefcdab89, 0x98badcfe, 0x10325476, 0xc3d2e1f0⟩
def shaBlocks (m : List UInt8) : Nat → W5
  | 0 => shaStart
  | k + 1 =>
    let h := shaBlocks m k
    let v := shaSteps (shaMore (wordsHigh m (64 * k) 64) 64) h 80
    ⟨h.a + v.a, h.b + v.b, h.c + v.c, h.d + v.d, h.e + v.e⟩
def W5.list (v : W5) : List UInt32 := [v.a, v.b, v.c, v.d, v.e]
def outHigh (h : List UInt32) (i : Nat) : UInt8 := (h.getD (i / 4) 0 >>> UInt32.ofNat (24 - 8 * (i % 4))).toUInt8
def sha (b : List UInt8) : List UInt8 := (List.range 20).map (outHigh (shaBlocks (pad false b) ((pad false b).length / 64)).list)
theorem sha_length (b : List UInt8) : (sha b).length = 20 := by simp [sha]
end Pure
theorem md4_abc : Pure.md4 [97, 98, 99] = [0xa4, 0x48, 0x01, 0x7a, 0xaf, 0x21, 0xd8, 0x52, 0x5f, 0xc1, 0x0a, 0xe8, 0x7a, 0xa6, 0x72, 0x9d] := by decide +kernel
theorem sha_abc : Pure.sha [97, 98, 99] = [0xa9, 0x99, 0x3e, 0x36, 0x47, 0x06, 0x81, 0x6a, 0xba, 0x3e, 0x25, 0x71, 0x78, 0x50, 0xc2, 0x6c, 0x9c, 0xd0, 0xd8, 0x9d] := by decide +kernel
theorem md4_none : Pure.md4 [] = [0x31, 0xd6, 0xcf, 0xe0, 0xd1, 0x6a, 0xe9, 0x31, 0xb7, 0x3c, 0x59, 0xd7, 0xe0, 0xc0, 0x89, 0xc0] := by decide +kernel
theorem sha_none : Pure.sha [] = [0xda, 0x39, 0xa3, 0xee, 0x5e, 0x6b, 0x4b, 0x0d, 0x32, 0x55, 0xbf, 0xef, 0x95, 0x60, 0x18, 0x90, 0xaf, 0xd8, 0x07, 0x09] := by decide +kernel
end Go.Proofs.YtkllaghfiofnjaaDoor
