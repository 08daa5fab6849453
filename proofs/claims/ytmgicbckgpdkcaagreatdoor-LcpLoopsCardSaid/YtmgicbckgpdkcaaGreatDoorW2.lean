/- A link that hears itself alone, as values. Nothing of the program. -/
import Derived.Test.YtmgicbckgpdkcaaGreatDoorW1
namespace Go.Proofs.YtmgicbckgpdkcaaGreatDoor
set_option maxRecDepth 100000
set_option maxHeartbeats 16000000
open _root_.Go.Lib renaming hid → xhd
open List renaming setIfInBounds_toArray → xqA, getElem_toArray → xqB, getElem_cons_succ → xqC, getElem_cons_zero → xqD, set_cons_succ → xqE, set_cons_zero → xqF
namespace Pure
def mg (l : List Opt) : Nat := (readVals l).magic
def y2c (M i : Nat) (l : List Opt) : Prop := ∀ o ∈ l, o.1 = 5 → o.2 = wide (y15 M i) 4
theorem y8l {M i : Nat} (h0 : M ≠ 0) (hm : M < 4294967296) {l : List Opt} (h : y2c M i l) : mg l = if hasType l 5 = true then y15 M i else 0 := by
 unfold mg readVals
 exact y3u (y2i h0 hm i).2 l _ (fun o ho h5 => Prod.ext h5 (h o ho h5))
theorem y9t {M i : Nat} {l : List Opt} (h : hasType l 5 = false) : y2c M i l := fun o ho h5 => by
 have := y27 ho h5
 rw [h] at this
 cases this
theorem yez {M i : Nat} (h0 : M ≠ 0) (hm : M < 4294967296) (h1 : 1 ≤ i) (h2 : i ≤ 1000) : y15 M i ≠ M := fun e => by
 have : i = 0 := y6k h0 hm h2 (by omega) e
 omega
theorem ye7 {M i : Nat} (h0 : M ≠ 0) (hm : M < 4294967296) (h1 : 1 ≤ i) (h2 : i ≤ 1000) {l : List Opt} (h : y2c M i l) : mg l ≠ M := by
 rw [y8l h0 hm h]
 split
 ·exact yez h0 hm h1 h2
 ·exact fun e => h0 e.symm
theorem y71 (l : List Opt) (h : Fine l) : (split (options l).2).2 = l := by rw [y0e h]
theorem y87 (l : List Opt) : (split (options l).2).2 = l ∨ (split (options l).2).2 = [] := by
 by_cases h : (options l).1 = 0
 ·exact .inl (y71 l (y9k h))
 ·refine .inr ?_
  unfold options at h ⊢
  split
  ·rfl
  ·rename_i h1
   rw [if_neg h1] at h
   split
   ·rfl
   ·rename_i h2
    rw [if_neg h2] at h
    exact absurd rfl h
theorem naked_five {M : Nat} {c : Cfg} {i s : Nat} {ask nak : List Opt} (ha : y2c M i ask) (hi : i ≤ s) (hn : ∀ o ∈ nak, o.1 = 5 → ∃ k, 1 ≤ k ∧ k ≤ s ∧ o.2 = wide (y15 M k) 4) : ∃ k, k ≤ s ∧ (1 ≤ i → 1 ≤ k) ∧ y2c M k (naked c.rules ask nak) := by
 have htype : ∀ o, (nakedOne c.rules nak o).1 = o.1 := fun o => by
  unfold nakedOne
  split
  ·rfl
  ·split
   ·rfl
   ·split
    ·rfl
    ·split
     ·rfl
     ·split <;> rfl
 cases hf : nak.find? (fun p => decide (p.1 = 5)) with
 | none =>
  refine ⟨i, hi, fun h => h, fun o ho h5 => ?_⟩
  unfold naked at ho
  obtain ⟨x, hx, rfl⟩ := List.mem_map.1 ho
  rw [htype] at h5
  have e : nakedOne c.rules nak x = x := by
   unfold nakedOne
   rw [h5, hf]
  rw [e]
  exact ha x hx h5
 | some p =>
  have hp5 : p.1 = 5 := by simpa using List.find?_some hf
  obtain ⟨k, k1, k2, k3⟩ := hn p (List.mem_of_find?_eq_some hf) hp5
  refine ⟨k, k2, fun _ => k1, fun o ho h5 => ?_⟩
  unfold naked at ho
  obtain ⟨x, hx, rfl⟩ := List.mem_map.1 ho
  rw [htype] at h5
  have e : nakedOne c.rules nak x = (x.1, p.2) := by
   unfold nakedOne
   rw [h5, hf]
   dsimp only
   rw [y7h]
   rfl
  rw [e]
  exact k3
theorem left_five {M i : Nat} {rules : List Rule} {ask rej : List Opt} (h : y2c M i ask) : y2c M i (left rules ask rej) := fun o ho => h o (List.mem_filter.1 ho).1
theorem y8u {c : Cfg} {r : Rule} (hr : r ∈ c.rules) {b : List UInt8} {p : Opt} (h : r.offers b = some p) : p.1 ≠ 5 := by
 have key : r.how = 1 ∨ r.type ≠ 5 := by
  unfold Cfg.rules at hr
  simp only [List.mem_append, List.mem_cons, List.not_mem_nil, or_false] at hr
  rcases hr with ((((hr | hr) | hr) | hr) | hr) | hr
  ·rcases hr with rfl | rfl
   ·exact .inr (by decide)
   ·exact .inl rfl
  ·split at hr
   ·cases hr
   ·rw [List.mem_singleton.1 hr]; exact .inr (by decide)
  ·subst hr; exact .inl rfl
  ·split at hr
   ·rw [List.mem_singleton.1 hr]; exact .inl rfl
   ·cases hr
  ·split at hr
   ·rw [List.mem_singleton.1 hr]; exact .inl rfl
   ·cases hr
  ·split at hr
   ·cases hr
   ·simp only [List.mem_cons, List.not_mem_nil, or_false] at hr
    rcases hr with rfl | rfl
    ·exact .inr (by decide)
    ·exact .inl rfl
 unfold Rule.offers at h
 rcases key with e | e
 ·rw [e] at h
  simp at h
 ·split at h
  ·injection h with h; rw [← h]; exact e
  ·split at h
   ·injection h with h; rw [← h]; exact e
   ·split at h
    ·injection h with h; rw [← h]; exact e
    ·cases h
theorem y5s {c : Cfg} {rj : Bool} {l : List Opt} : ∀ k, ∀ o ∈ (judgeTo c.rules rj l k).2, o.1 ≠ 5
 | 0 => fun o ho => by unfold judgeTo at ho; cases ho
 | k + 1 => fun o ho => by
  have ih := y5s (c := c) (rj := rj) (l := l) k
  unfold judgeTo at ho
  split at ho
  ·exact ih o ho
  ·rename_i q hq
   split at ho
   ·exact ih o ho
   ·exact ih o ho
   ·rename_i p hv
    rcases List.mem_append.1 ho with ho | ho
    ·exact ih o ho
    ·rw [List.mem_singleton.1 ho]
     unfold verdict at hv
     split at hv
     ·cases hv
     ·rename_i r hr
      split at hv
      ·cases hv
      ·split at hv
       ·cases hv
       ·split at hv
        ·cases hv
        ·rename_i p' hp'
         split at hv
         ·cases hv
         ·injection hv with hv
          subst hv
          exact y8u (List.mem_of_find?_eq_some hr) hp'
theorem y8q {c : Cfg} {l nak : List Opt} (hn : ∀ o ∈ nak, o.1 ≠ 5) : ∀ k, ∀ o ∈ y1f c.rules l nak k, o.1 ≠ 5
 | 0 => fun o ho => hn o ho
 | k + 1 => fun o ho => by
  have ih := y8q (c := c) (l := l) hn k
  unfold y1f at ho
  split at ho
  ·exact ih o ho
  ·split at ho
   ·exact ih o ho
   ·split at ho
    ·exact ih o ho
    ·rename_i f hf
     split at ho
     ·exact ih o ho
     ·split at ho
      ·exact ih o ho
      ·rename_i p hp
       rcases List.mem_append.1 ho with ho | ho
       ·exact ih o ho
       ·rw [List.mem_singleton.1 ho]
        exact y8u (List.mem_of_find?_eq_some hf) hp
theorem y9x (c : Cfg) (l : List Opt) (rj : Bool) : ((judge c.rules l rj).1 = 3 → ∀ o ∈ (judge c.rules l rj).2, o.1 ≠ 5) ∧ ((judge c.rules l rj).1 = 2 → (judge c.rules l rj).2 = l) := by
 unfold judge
 by_cases h1 : (judgeTo c.rules rj l l.length).1 ≠ []
 ·rw [if_pos h1]
  exact ⟨(fun h => by cases h), (fun h => by cases h)⟩
 ·rw [if_neg h1]
  have hno : ∀ o ∈ (if rj = true then (judgeTo c.rules rj l l.length).2 else y1f c.rules l (judgeTo c.rules rj l l.length).2 c.rules.length), o.1 ≠ 5 := by
   split
   ·exact y5s _
   ·exact y8q (y5s _) _
  dsimp only
  generalize (if rj = true then (judgeTo c.rules rj l l.length).2 else y1f c.rules l (judgeTo c.rules rj l l.length).2 c.rules.length) = N at hno
  by_cases h2 : N ≠ []
  ·rw [if_pos h2]
   exact ⟨fun _ => hno, (fun h => by cases h)⟩
  ·rw [if_neg h2]
   exact ⟨(fun h => by cases h), fun _ => rfl⟩
end Pure
namespace Pure
theorem yep {b : List UInt8} (h : (split b).1 = 0) : Fine (split b).2 := by
 have h1 : split b = (0, (split b).2) := by rw [← h]
 have h2 := y5t h1
 exact y9k (by rw [h2])
structure LoopI (c : Cfg) (M s : Nat) (h : Bool) (n : Neg) : Prop where
 rules : n.rules = c.rules
 fine : Fine n.request
 req : ∃ i, i ≤ s ∧ y2c M i n.request ∧ (h = false → 1 ≤ i)
 ours : ∃ j, j ≤ s ∧ y2c M j (split n.ours).2 ∧ (h = false → 1 ≤ j)
 one : h = true → mg (split n.ours).2 = M
 acked : mg n.acked ≠ M
structure GoodP (M s : Nat) (h : Bool) (p : Pkt) : Prop where
 nak : p.code = 3 → ∀ o ∈ (split p.data).2, o.1 = 5 → ∃ k, 1 ≤ k ∧ k ≤ s ∧ o.2 = wide (y15 M k) 4
 ack : p.code = 2 → h = true → mg (split p.data).2 ≠ M
theorem GoodP.other {M s : Nat} {h : Bool} {p : Pkt} (h3 : p.code ≠ 3) (h2 : p.code ≠ 2) : GoodP M s h p := ⟨fun e => absurd e h3, fun e => absurd e h2⟩
theorem GoodP.less {M s s' : Nat} {h h' : Bool} {p : Pkt} (g : GoodP M s h p) (hs : s ≤ s') (hh : h = false → h' = false) : GoodP M s' h' p :=
 ⟨fun e o ho h5 => by obtain ⟨k, k1, k2, k3⟩ := g.nak e o ho h5; exact ⟨k, k1, by omega, k3⟩, fun e e2 => g.ack e (by cases h with | true => rfl | false => rw [hh rfl] at e2; cases e2)⟩
theorem LoopI.less {c : Cfg} {M s s' : Nat} {h : Bool} {n : Neg} (g : LoopI c M s h n) (hs : s ≤ s') : LoopI c M s' h n := by
 obtain ⟨i, i1, i2⟩ := g.req
 obtain ⟨j, j1, j2⟩ := g.ours
 exact ⟨g.rules, g.fine, ⟨i, by omega, i2⟩, ⟨j, by omega, j2⟩, g.one, g.acked⟩
structure GoodR (M s : Nat) (h : Bool) (r : Reply) : Prop where
 nak : r.code = 3 → ∀ o ∈ r.l, o.1 = 5 → ∃ k, 1 ≤ k ∧ k ≤ s ∧ o.2 = wide (y15 M k) 4
 ack : r.code = 2 → h = true → mg r.l ≠ M
def y1o (c : Cfg) (M s : Nat) (h0 : Bool) (x : Neg × Said) : Prop := ∃ h, (h0 = false → h = false) ∧ LoopI c M s h x.1 ∧ ∀ p ∈ x.2.send, GoodP M s h p
section
variable {c : Cfg} {M s : Nat} {h0 : Bool} {x : Neg × Said}
theorem LoopI.as {h : Bool} {n n' : Neg} (g : LoopI c M s h n) (e1 : n'.rules = n.rules) (e2 : n'.request = n.request) (e3 : n'.ours = n.ours) (e4 : n'.acked = n.acked) : LoopI c M s h n' :=
 ⟨e1.trans g.rules, by rw [e2]; exact g.fine, by rw [e2]; exact g.req, by rw [e3]; exact g.ours, by rw [e3]; exact g.one, by rw [e4]; exact g.acked⟩
theorem y1o.sent {n' : Neg} {o' : Said} {p : Pkt} (g : y1o c M s h0 x) (e1 : n'.rules = x.1.rules) (e2 : n'.request = x.1.request) (e3 : n'.ours = x.1.ours) (e4 : n'.acked = x.1.acked) (e5 : o'.send = x.2.send ++ [p]) (hp : ∀ h, (h0 = false → h = false) → GoodP M s h p) : y1o c M s h0 (n', o') := by
 obtain ⟨h, h1, h2, h3⟩ := g
 refine ⟨h, h1, h2.as e1 e2 e3 e4, fun q hq => ?_⟩
 have hq : q ∈ o'.send := hq
 rw [e5] at hq
 rcases List.mem_append.1 hq with hq | hq
 ·exact h3 q hq
 ·rw [List.mem_singleton.1 hq]; exact hp h h1
theorem y1o.kept {n' : Neg} {o' : Said} (g : y1o c M s h0 x) (e1 : n'.rules = x.1.rules) (e2 : n'.request = x.1.request) (e3 : n'.ours = x.1.ours) (e4 : n'.acked = x.1.acked) (e5 : o'.send = x.2.send) : y1o c M s h0 (n', o') := by
 obtain ⟨h, h1, h2, h3⟩ := g
 exact ⟨h, h1, h2.as e1 e2 e3 e4, fun q hq => h3 q (by have hq : q ∈ o'.send := hq; rw [e5] at hq; exact hq)⟩
theorem yf9 (hM : M ≠ 0) (hm : M < 4294967296) (hs : 1 ≤ s) (hs2 : s ≤ 999) (g : y1o c M s h0 x) : y1o c M s h0 (y60 x) := by
 obtain ⟨h, h1, h2, h3⟩ := g
 have hb := y71 x.1.request h2.fine
 obtain ⟨i, i1, i2, i3⟩ := h2.req
 have hpk : ∀ h' : Bool, (h = false → h' = false) → ∀ p ∈ (y60 x).2.send, GoodP M s h' p := fun h' hh p hp => by
  have hp : p ∈ x.2.send ++ [⟨1, x.1.next, (options x.1.request).2⟩] := hp
  rcases List.mem_append.1 hp with hp | hp
  ·exact (h3 p hp).less (Nat.le_refl _) hh
  ·rw [List.mem_singleton.1 hp]; exact GoodP.other (by simp) (by simp)
 by_cases hi : 1 ≤ i
 ·exact ⟨false, fun _ => rfl, ⟨h2.rules, h2.fine, ⟨i, i1, i2, fun _ => hi⟩, ⟨i, i1, by show y2c M i (split (options x.1.request).2).2; rw [hb]; exact i2, fun _ => hi⟩, (fun e => by cases e), h2.acked⟩, hpk false (fun _ => rfl)⟩
 ·have hi0 : i = 0 := by omega
  subst hi0
  have hh : h = true := by
   cases h with
   | true => rfl
   | false => exact absurd (i3 rfl) hi
  subst hh
  by_cases h5 : hasType x.1.request 5 = true
  ·refine ⟨true, h1, ⟨h2.rules, h2.fine, h2.req, ⟨0, by omega, by show y2c M 0 (split (options x.1.request).2).2; rw [hb]; exact i2, (fun e => by cases e)⟩, fun _ => ?_, h2.acked⟩, hpk true (fun e => by cases e)⟩
   show mg (split (options x.1.request).2).2 = M
   rw [hb, y8l hM hm i2, if_pos h5]
   rfl
  ·have h5 : hasType x.1.request 5 = false := by simpa using h5
   exact ⟨false, fun _ => rfl, ⟨h2.rules, h2.fine, ⟨1, hs, y9t h5, fun _ => Nat.le_refl _⟩, ⟨1, hs, by show y2c M 1 (split (options x.1.request).2).2; rw [hb]; exact y9t h5, fun _ => Nat.le_refl _⟩, (fun e => by cases e), h2.acked⟩, hpk false (fun _ => rfl)⟩
theorem loop_act (hM : M ≠ 0) (hm : M < 4294967296) (hs : 1 ≤ s) (hs2 : s ≤ 999) {r : Option Reply} (hr : ∀ q, r = some q → GoodR M s h0 q) (hcode : ∀ q, r = some q → q.p.code = 5 ∨ True) (g : y1o c M s h0 x) (a : Nat) (ha : a ≠ 2) : y1o c M s h0 (y2o r x a) := by
 unfold y2o
 split
 ·exact g.kept rfl rfl rfl rfl rfl
 ·exact g.kept rfl rfl rfl rfl rfl
 ·exact absurd rfl ha
 ·exact g.kept rfl rfl rfl rfl rfl
 ·exact yf9 hM hm hs hs2 g
 ·cases r with
  | none => exact g
  | some q =>
   refine g.sent rfl rfl rfl rfl rfl (fun h hh => ?_)
   have gq := hr q rfl
   refine ⟨fun e o ho h5 => ?_, fun e e2 => ?_⟩
   ·have e : q.code = 3 := by have e : (q.code : Int) = 3 := e; omega
    have ho : o ∈ (split (options q.l).2).2 := ho
    rcases y87 q.l with e3 | e3
    ·rw [e3] at ho; exact gq.nak e o ho h5
    ·rw [e3] at ho; cases ho
   ·have e : q.code = 2 := by have e : (q.code : Int) = 2 := e; omega
    show mg (split (options q.l).2).2 ≠ M
    rcases y87 q.l with e3 | e3
    ·rw [e3]
     exact gq.ack e (by cases h0 with | true => rfl | false => rw [hh rfl] at e2; cases e2)
    ·rw [e3]
     exact fun e => hM e.symm
 ·cases r with
  | none => exact g
  | some q =>
   refine g.sent rfl rfl rfl rfl rfl (fun h hh => ?_)
   have gq := hr q rfl
   refine ⟨fun e o ho h5 => ?_, fun e e2 => ?_⟩
   ·have e : q.code = 3 := by have e : (q.code : Int) = 3 := e; omega
    have ho : o ∈ (split (options q.l).2).2 := ho
    rcases y87 q.l with e3 | e3
    ·rw [e3] at ho; exact gq.nak e o ho h5
    ·rw [e3] at ho; cases ho
   ·have e : q.code = 2 := by have e : (q.code : Int) = 2 := e; omega
    show mg (split (options q.l).2).2 ≠ M
    rcases y87 q.l with e3 | e3
    ·rw [e3]
     exact gq.ack e (by cases h0 with | true => rfl | false => rw [hh rfl] at e2; cases e2)
    ·rw [e3]
     exact fun e => hM e.symm
 ·exact g.sent rfl rfl rfl rfl rfl (fun h _ => GoodP.other (by show ((5 : Nat) : Int) ≠ 3; decide) (by show ((5 : Nat) : Int) ≠ 2; decide))
 ·cases r with
  | none => exact g.sent rfl rfl rfl rfl rfl (fun h _ => GoodP.other (by show ((6 : Nat) : Int) ≠ 3; decide) (by show ((6 : Nat) : Int) ≠ 2; decide))
  | some q =>
   show y1o c M s h0 (if q.p.code = 5 then (x.1, x.2.more ⟨6, q.p.id, []⟩) else sendOwn x 6 [])
   split
   ·exact g.sent rfl rfl rfl rfl rfl (fun h _ => GoodP.other (by show (6 : Int) ≠ 3; decide) (by show (6 : Int) ≠ 2; decide))
   ·exact g.sent rfl rfl rfl rfl rfl (fun h _ => GoodP.other (by show ((6 : Nat) : Int) ≠ 3; decide) (by show ((6 : Nat) : Int) ≠ 2; decide))
 ·cases r with
  | none => exact g
  | some q => exact g.sent rfl rfl rfl rfl rfl (fun h _ => GoodP.other (by show ((7 : Nat) : Int) ≠ 3; decide) (by show ((7 : Nat) : Int) ≠ 2; decide))
 ·exact g
theorem ydh (hM : M ≠ 0) (hm : M < 4294967296) (hs : 1 ≤ s) (hs2 : s ≤ 999) {r : Option Reply} (hr : ∀ q, r = some q → GoodR M s h0 q) (l : List Nat) : ∀ x, y1o c M s h0 x → (∀ a ∈ l, a ≠ 2) → y1o c M s h0 (l.foldl (y2o r) x) := by
 induction l with
 | nil => intro x g _; exact g
 | cons a l ih =>
  intro x g ha
  rw [List.foldl_cons]
  exact ih _ (loop_act hM hm hs hs2 hr (fun _ _ => .inr trivial) g a (ha a List.mem_cons_self)) (fun b hb => ha b (List.mem_cons_of_mem _ hb))
end
theorem y66 : ∀ st < 10, ∀ e < 16, 4 ≤ e → ∀ a ∈ (fsmAt st e).1, a ≠ 2 := by decide +kernel
section
variable {c : Cfg} {M s : Nat} {h0 : Bool} {n : Neg}
theorem y4s (hM : M ≠ 0) (hm : M < 4294967296) (hs : 1 ≤ s) (hs2 : s ≤ 999) {r : Option Reply} (hr : ∀ q, r = some q → GoodR M s h0 q) (g : LoopI c M s h0 n) (hst : n.m.state ≤ 9) (e : Nat) (he : 4 ≤ e) (he2 : e < 16) : y1o c M s h0 (n.event e r) := by
 unfold Neg.event Neg.acts
 refine ydh hM hm hs hs2 hr _ _ ⟨h0, fun h => h, g.as rfl rfl rfl rfl, fun p hp => by cases hp⟩ ?_
 unfold Mach.act2
 split
 ·exact y66 n.m.state (by omega) e he2 he
 ·exact fun a ha => by cases ha
theorem loop_tick (hM : M ≠ 0) (hm : M < 4294967296) (hs : 1 ≤ s) (hs2 : s ≤ 999) (g : LoopI c M s h0 n) (hst : n.m.state ≤ 9) : y1o c M s h0 n.tick := by
 unfold Neg.tick Neg.acts
 refine ydh hM hm hs hs2 (fun q h => by cases h) _ _ ⟨h0, fun h => h, g.as rfl rfl rfl rfl, fun p hp => by cases hp⟩ ?_
 unfold Mach.tick
 split
 ·exact fun a ha => by cases ha
 ·split
  ·exact fun a ha => by cases ha
  ·split
   ·exact y66 n.m.state (by omega) 4 (by decide) (by decide)
   ·exact y66 n.m.state (by omega) 5 (by decide) (by decide)
theorem y34 (g : LoopI c M s h0 n) : y1o c M s h0 n.drop := ⟨h0, fun h => h, g.as rfl rfl rfl rfl, fun p hp => by cases hp⟩
theorem ya0 (hM : M ≠ 0) (hm : M < 4294967296) (hs : 1 ≤ s) (hs2 : s ≤ 999) (g : LoopI c M s h0 n) (hst : n.m.state ≤ 9) (p : Pkt) (l : List Opt) (j : Nat × List Opt) (hj : GoodR M s h0 ⟨p, j.1, j.2⟩) : y1o c M s h0 (n.judgedAs p l j) := by
 unfold Neg.judgedAs
 dsimp only
 have key : ∀ e : Nat, e = 6 ∨ e = 7 → y1o c M s h0 (n.event e (some ⟨p, j.1, j.2⟩)) := fun e he => y4s hM hm hs hs2 (fun q hq => by injection hq with hq; rw [← hq]; exact hj) g hst e (by omega) (by omega)
 by_cases hj2 : j.1 = 2
 ·rw [if_pos hj2]
  have h2 := key 6 (.inl rfl)
  split
  ·exact h2.kept rfl rfl rfl rfl rfl
  ·exact h2
 ·rw [if_neg hj2, if_neg (fun h => hj2 h.1)]
  exact key 7 (.inr rfl)
theorem yec (hM : M ≠ 0) (hm : M < 4294967296) (hs : 1 ≤ s) (hs2 : s ≤ 999) (g : LoopI c M s h0 n) (hst : n.m.state ≤ 9) (p : Pkt) (hp : GoodP M s h0 p) (hc : p.code = 2 ∨ p.code = 3 ∨ p.code = 4) : y1o c M s h0 (n.answered p) := by
 have hr0 : ∀ q, some (⟨p, 0, []⟩ : Reply) = some q → GoodR M s h0 q := fun q hq => by injection hq with hq; subst hq; exact ⟨(fun e => by cases e), (fun e => by cases e)⟩
 unfold Neg.answered
 split
 ·exact y34 g
 split
 ·rename_i h2
  split
  ·rename_i hd
   refine y4s hM hm hs hs2 hr0 (n := { n with waits := false, acked := (split n.ours).2 }) ⟨g.rules, g.fine, g.req, g.ours, g.one, ?_⟩ hst 8 (by decide) (by decide)
   show mg (split n.ours).2 ≠ M
   cases h0 with
   | true =>
    have := hp.ack h2 rfl
    rw [hd] at this
    exact this
   | false =>
    obtain ⟨j, j1, j2, j3⟩ := g.ours
    exact ye7 hM hm (j3 rfl) (by omega) j2
  ·exact y34 g
 split
 ·exact y34 g
 rename_i hsp0
 have hsp : (split p.data).1 = 0 := by simpa using hsp0
 obtain ⟨i, i1, i2, i3⟩ := g.req
 split
 ·split
  ·exact y4s hM hm hs hs2 hr0 (n := { n with request := left n.rules n.request (split p.data).2, waits := false }) ⟨g.rules, left_fine g.fine, ⟨i, i1, left_five i2, i3⟩, g.ours, g.one, g.acked⟩ hst 9 (by decide) (by decide)
  ·exact y34 g
 ·rename_i n2 n4
  have h3 : p.code = 3 := by rcases hc with h | h | h; exact absurd h n2; exact h; exact absurd h n4
  obtain ⟨k, k1, k2, k3⟩ := naked_five (c := c) i2 i1 (hp.nak h3)
  rw [← g.rules] at k3
  exact y4s hM hm hs hs2 hr0 (n := { n with request := naked n.rules n.request (split p.data).2, waits := false }) ⟨g.rules, naked_fine g.fine (yep hsp), ⟨k, k1, k3, fun h => k2 (i3 h)⟩, g.ours, g.one, g.acked⟩ hst 9 (by decide) (by decide)
end
def y43 (c : Cfg) (M s : Nat) (x : Lcp) (q : List Pkt) : Prop := x.c = c ∧ x.n.m.state ≤ 9 ∧ ∃ h, LoopI c M s h x.n ∧ ∀ p ∈ q, GoodP M s h p
section
variable {c : Cfg} {M s : Nat} {x : Lcp} {q t : List Pkt} {p : Pkt}
theorem y1o.wider {h0 : Bool} {y : Neg × Said} (g : y1o c M s h0 y) (hq : ∀ p ∈ q, GoodP M s h0 p) (hy : y.1.m.state ≤ 9) : y43 c M s ⟨c, y.1⟩ (q ++ y.2.send) := by
 obtain ⟨h, h1, h2, h3⟩ := g
 refine ⟨rfl, hy, h, h2, fun p hp => ?_⟩
 rcases List.mem_append.1 hp with hp | hp
 ·exact (hq p hp).less (Nat.le_refl _) h1
 ·exact h3 p hp
end
end Pure
namespace Pure
theorem rest_state (m : Mach) : m.rest.state = m.state := by
 unfold Mach.rest
 split <;> rfl
theorem yd3 {m : Mach} (h : m.state ≤ 9) (e : Nat) (he : e < 16) : (m.step e).2.state ≤ 9 := by
 unfold Mach.step
 dsimp only
 rw [rest_state, (act_keeps _ _).1]
 exact (fsmAt_le m.state (by omega) e he).1
theorem act2_le {m : Mach} (h : m.state ≤ 9) (e : Int) : (m.act2 e).2.state ≤ 9 := by
 unfold Mach.act2
 split
 ·rename_i hd
  exact yd3 h _ (by unfold does at hd; omega)
 ·exact h
theorem tick_le {m : Mach} (h : m.state ≤ 9) : m.tick.2.state ≤ 9 := by
 unfold Mach.tick
 split
 ·exact h
 ·split
  ·exact h
  ·split
   ·exact yd3 (m := { m with left := 0 }) h 4 (by decide)
   ·exact yd3 (m := { m with left := 0 }) h 5 (by decide)
theorem y1w {n : Neg} (h : n.m.state ≤ 9) (e : Nat) (r : Option Reply) : (n.event e r).1.m.state ≤ 9 := by
 rw [y25]
 exact act2_le h _
theorem y9z {n : Neg} (h : n.m.state ≤ 9) (p : Pkt) (l : List Opt) (j : Nat × List Opt) : (n.judgedAs p l j).1.m.state ≤ 9 := by
 unfold Neg.judgedAs
 dsimp only
 by_cases hj2 : j.1 = 2
 ·rw [if_pos hj2]
  split <;> exact y1w h _ _
 ·rw [if_neg hj2, if_neg (fun h => hj2 h.1)]
  exact y1w h _ _
theorem yfr {n : Neg} (h : n.m.state ≤ 9) (p : Pkt) : (n.answered p).1.m.state ≤ 9 := by
 unfold Neg.answered
 split
 ·exact h
 split
 ·split
  ·exact y1w (n := { n with waits := false, acked := (split n.ours).2 }) h _ _
  ·exact h
 split
 ·exact h
 split
 ·split
  ·exact y1w (n := { n with request := left n.rules n.request (split p.data).2, waits := false }) h _ _
  ·exact h
 ·exact y1w (n := { n with request := naked n.rules n.request (split p.data).2, waits := false }) h _ _
section
variable {c : Cfg} {M s : Nat} {x : Lcp} {q t : List Pkt} {p : Pkt}
theorem loop_input (hM : M ≠ 0) (hm : M < 4294967296) (hs : 1 ≤ s) (hs2 : s ≤ 998) (g : y43 c M s x (p :: t)) : y43 c M (s + 1) (x.input p).1 (t ++ (x.input p).2.said.send) := by
 obtain ⟨hc, hst, h, h1, h2⟩ := g
 obtain ⟨xc, n⟩ := x
 dsimp only at hc hst h1
 subst hc
 have hp := h2 p List.mem_cons_self
 have g1 : LoopI xc M (s + 1) h n := h1.less (by omega)
 have hp1 : GoodP M (s + 1) h p := hp.less (by omega) (fun e => e)
 have ht : ∀ p ∈ t, GoodP M (s + 1) h p := fun q hq => (h2 q (List.mem_cons_of_mem _ hq)).less (by omega) (fun e => e)
 have close : ∀ (y : Neg × Said) (l : LSaid), y1o xc M (s + 1) h y → y.1.m.state ≤ 9 → l.said.send = y.2.send → y43 xc M (s + 1) ⟨xc, y.1⟩ (t ++ l.said.send) := fun y l hy hl he => by
  rw [he]
  exact hy.wider ht hl
 have hr0 : ∀ q, some (⟨p, 0, []⟩ : Reply) = some q → GoodR M (s + 1) h q := fun q hq => by injection hq with hq; subst hq; exact ⟨(fun e => by cases e), (fun e => by cases e)⟩
 have hev : ∀ e, 4 ≤ e → e < 16 → y1o xc M (s + 1) h (n.event e (some ⟨p, 0, []⟩)) := fun e he he2 => y4s hM hm (by omega) (by omega) hr0 g1 hst e he he2
 have hdrop : y43 xc M (s + 1) ⟨xc, n.drop.1⟩ (t ++ (LSaid.of n.drop.2).said.send) := close n.drop _ (y34 g1) hst rfl
 unfold Lcp.input
 dsimp only
 split
 ·exact hdrop
 split
 ·-- a request
  show y43 xc M (s + 1) ⟨xc, ((⟨xc, n⟩ : Lcp).request p).1⟩ (t ++ ((⟨xc, n⟩ : Lcp).request p).2.send)
  have key : y1o xc M (s + 1) h ((⟨xc, n⟩ : Lcp).request p) ∧ ((⟨xc, n⟩ : Lcp).request p).1.m.state ≤ 9 := by
   unfold Lcp.request
   dsimp only
   split
   ·exact ⟨y34 g1, hst⟩
   split
   ·rename_i hun
    rw [y6t]
    refine ⟨ya0 hM hm (by omega) (by omega) g1 hst p _ _ ?_, y9z hst _ _ _⟩
    rw [g1.rules]
    have hj := y9x xc (split p.data).2 (decide (n.m.tries ≤ n.naks))
    refine ⟨fun e o ho h5 => absurd h5 (hj.1 e o ho), fun e eh => ?_⟩
    rw [hj.2 e]
    have hone : mg (split n.ours).2 = M := g1.one eh
    unfold mg at hone ⊢
    rw [hone] at hun
    rcases hun with e2 | e2
    ·exact absurd e2 hM
    ·exact e2
   ·rename_i hun
    refine ⟨ya0 hM hm (by omega) (by omega) g1 hst p _ _ ?_, y9z hst _ _ _⟩
    rw [g1.rules]
    have hj := y9x xc (split p.data).2 (decide (n.m.tries ≤ n.naks))
    unfold looped
    split
    ·rename_i h4
     exact ⟨fun e => by dsimp only at e; omega, fun e => by dsimp only at e; omega⟩
    ·split
     ·exact ⟨(fun e => by cases e), (fun e => by cases e)⟩
     ·refine ⟨fun _ o ho h5 => ?_, (fun e => by cases e)⟩
      obtain ⟨j, j1, j2, j3⟩ := h1.ours
      have hne : mg (split n.ours).2 ≠ 0 := fun e => hun (.inl e)
      have hmg := y8l hM hm j2
      rw [List.mem_singleton.1 ho]
      refine ⟨j + 1, by omega, by omega, ?_⟩
      have e5 : mg (split n.ours).2 = y15 M j := by
       rw [hmg] at hne ⊢
       split
       ·rfl
       ·rename_i h5n
        rw [if_neg h5n] at hne
        exact absurd rfl hne
      show wide (nextMagic (mg (split n.ours).2)) 4 = _
      rw [e5]
      rfl
  exact key.1.wider ht key.2
 split
 ·split
  ·exact hdrop
  split
  ·exact close (n.by 14 p) _ (hev 14 (by decide) (by decide)) (y1w hst _ _) rfl
  ·exact close (n.by 13 p) ⟨(n.by 13 p).2, _⟩ (hev 13 (by decide) (by decide)) (y1w hst _ _) rfl
 split
 ·split
  ·exact hdrop
  split
  ·refine close ((n.by 15 p).1, (n.by 15 p).2.more ⟨10, p.id, _⟩) (.of ((n.by 15 p).2.more ⟨10, p.id, _⟩)) ?_ (y1w hst _ _) rfl
   exact (hev 15 (by decide) (by decide)).sent rfl rfl rfl rfl rfl (fun _ _ => GoodP.other (by show (10 : Int) ≠ 3; decide) (by show (10 : Int) ≠ 2; decide))
  ·exact close (n.by 15 p) _ (hev 15 (by decide) (by decide)) (y1w hst _ _) rfl
 split
 ·split
  ·exact close (n, mute) (.of mute) ⟨h, fun e => e, g1, fun p hp => by cases hp⟩ hst rfl
  ·exact hdrop
 ·rename_i c0 c1 c8 c9 c10
  show y43 xc M (s + 1) ⟨xc, (n.input p).1⟩ (t ++ (n.input p).2.send)
  have key : y1o xc M (s + 1) h (n.input p) ∧ (n.input p).1.m.state ≤ 9 := by
   unfold Neg.input
   split
   ·exact ⟨y34 g1, hst⟩
   split
   ·rename_i hc
    exact ⟨yec hM hm (by omega) (by omega) g1 hst p hp1 hc, yfr hst p⟩
   split
   ·exact ⟨hev 10 (by decide) (by decide), y1w hst _ _⟩
   split
   ·exact ⟨hev 11 (by decide) (by decide), y1w hst _ _⟩
   split
   ·split
    ·exact ⟨y34 g1, hst⟩
    ·split
     ·exact ⟨hev 14 (by decide) (by decide), y1w hst _ _⟩
     ·exact ⟨hev 13 (by decide) (by decide), y1w hst _ _⟩
   ·exact ⟨hev 12 (by decide) (by decide), y1w hst _ _⟩
  exact key.1.wider ht key.2
theorem loop_ticks (hM : M ≠ 0) (hm : M < 4294967296) (hs : 1 ≤ s) (hs2 : s ≤ 998) (g : y43 c M s x q) : y43 c M s x.tick.1 (q ++ x.tick.2.said.send) := by
 obtain ⟨hc, hst, h, h1, h2⟩ := g
 obtain ⟨xc, n⟩ := x
 dsimp only at hc hst h1
 subst hc
 have hm2 : n.tick.1.m.state ≤ 9 := by
  have : n.tick.1.m = n.m.tick.2 := (y5v none _ ({ n with m := n.m.tick.2 }, mute)).m
  rw [this]
  exact tick_le hst
 exact (loop_tick hM hm hs (by omega) h1 hst).wider h2 hm2
theorem loop_start (hM : M ≠ 0) (hm : M < 4294967296) (c : Cfg) (t u : Nat) : y43 c M 1 ⟨c, begun c.rules (c.ask M) t u⟩ [⟨1, 1, (options (c.ask M)).2⟩] := by
 have hf : y2c M 0 (c.ask M) := fun o ho h5 => by rw [y62 o ho h5]; rfl
 refine ⟨rfl, by show 6 ≤ 9; decide, true, ⟨rfl, ask_fine c M, ⟨0, by decide, hf, (fun e => by cases e)⟩, ⟨0, by decide, ?_, (fun e => by cases e)⟩, fun _ => ?_, fun e => hM e.symm⟩, fun p hp => ?_⟩
 ·show y2c M 0 (split (options (c.ask M)).2).2
  rw [y71 _ (ask_fine c M)]
  exact hf
 ·show mg (split (options (c.ask M)).2).2 = M
  rw [y71 _ (ask_fine c M)]
  exact y31 hm hM
 ·rw [List.mem_singleton.1 hp]
  exact GoodP.other (by simp) (by simp)
theorem loop_mine (hM : M ≠ 0) (g : y43 c M s x q) : x.mine.magic ≠ M := by
 obtain ⟨hc, hst, h, h1, h2⟩ := g
 unfold Lcp.mine Neg.mine
 split
 ·exact h1.acked
 ·exact fun e => hM e.symm
end
end Pure
namespace Pure
def PLen (p : Pkt) : Prop := p.data.length ≤ 100000
theorem y5g (l : List Opt) : (options l).2.length ≤ 10000 := by
 by_cases h : (options l).1 = 0
 ·exact y1d (y9k h)
 ·unfold options at h ⊢
  split
  ·exact Nat.zero_le _
  ·rename_i h1
   rw [if_neg h1] at h
   split
   ·exact Nat.zero_le _
   ·rename_i h2
    rw [if_neg h2] at h
    exact absurd rfl h
def AB (k d : Nat) (x : Neg × Said) : Prop := x.1.naks ≤ k ∧ x.1.dropped ≤ d ∧ ∀ p ∈ x.2.send, PLen p
def cnt (r : Option Reply) (a : Nat) : Nat := if r.isSome = true ∧ (a = 7 ∨ a = 8) then 1 else 0
theorem AB.sent {k d : Nat} {x : Neg × Said} {n' : Neg} {o' : Said} {p : Pkt} (g : AB k d x) {k' : Nat} (e1 : n'.naks ≤ k') (e2 : n'.dropped = x.1.dropped) (e3 : o'.send = x.2.send ++ [p]) (hp : PLen p) : AB k' d (n', o') := by
 refine ⟨e1, by show n'.dropped ≤ d; rw [e2]; exact g.2.1, fun q hq => ?_⟩
 have hq : q ∈ o'.send := hq
 rw [e3] at hq
 rcases List.mem_append.1 hq with hq | hq
 ·exact g.2.2 q hq
 ·rw [List.mem_singleton.1 hq]; exact hp
theorem AB.act {k d : Nat} {x : Neg × Said} (g : AB k d x) (r : Option Reply) (a : Nat) : AB (k + cnt r a) d (y2o r x a) := by
 have h1 := g.1
 unfold y2o
 split
 ·exact ⟨by show x.1.naks ≤ _; omega, g.2⟩
 ·exact ⟨by show x.1.naks ≤ _; omega, g.2⟩
 ·exact ⟨Nat.zero_le _, g.2⟩
 ·exact ⟨by show x.1.naks ≤ _; omega, g.2⟩
 ·exact g.sent (by show x.1.naks ≤ _; omega) rfl rfl (by have := y5g x.1.request; show (options x.1.request).2.length ≤ 100000; omega)
 ·cases r with
  | none => exact ⟨by show x.1.naks ≤ _; omega, g.2⟩
  | some q =>
   have hc : cnt (some q) 7 = 1 := rfl
   refine g.sent ?_ rfl rfl (by have := y5g q.l; show (options q.l).2.length ≤ 100000; omega)
   show (if q.code = 3 then x.1.naks + 1 else x.1.naks) ≤ _
   split <;> omega
 ·cases r with
  | none => exact ⟨by show x.1.naks ≤ _; omega, g.2⟩
  | some q =>
   have hc : cnt (some q) 8 = 1 := rfl
   refine g.sent ?_ rfl rfl (by have := y5g q.l; show (options q.l).2.length ≤ 100000; omega)
   show (if q.code = 3 then x.1.naks + 1 else x.1.naks) ≤ _
   split <;> omega
 ·exact g.sent (by show x.1.naks ≤ _; omega) rfl rfl (Nat.zero_le _)
 ·cases r with
  | none => exact g.sent (by show x.1.naks ≤ _; omega) rfl rfl (Nat.zero_le _)
  | some q =>
   show AB _ d (if q.p.code = 5 then (x.1, x.2.more ⟨6, q.p.id, []⟩) else sendOwn x 6 [])
   split
   ·exact g.sent (by show x.1.naks ≤ _; omega) rfl rfl (Nat.zero_le _)
   ·exact g.sent (by show x.1.naks ≤ _; omega) rfl rfl (Nat.zero_le _)
 ·cases r with
  | none => exact ⟨by show x.1.naks ≤ _; omega, g.2⟩
  | some q => exact g.sent (by show x.1.naks ≤ _; omega) rfl rfl (by show ((encode q.p).2.take 1496).length ≤ 100000; rw [List.length_take]; omega)
 ·exact ⟨by omega, g.2⟩
theorem AB.acts {r : Option Reply} {d : Nat} (l : List Nat) : ∀ {k : Nat} {x : Neg × Said}, AB k d x → AB (k + (l.map (cnt r)).sum) d (l.foldl (y2o r) x) := by
 induction l with
 | nil => intro k x g; exact g
 | cons a l ih =>
  intro k x g
  rw [List.foldl_cons, List.map_cons, List.sum_cons, ← Nat.add_assoc]
  exact ih (g.act r a)
theorem cnt_none (l : List Nat) : (l.map (cnt none)).sum = 0 := by
 induction l with
 | nil => rfl
 | cons a l ih =>
  rw [List.map_cons, List.sum_cons, ih]
  unfold cnt
  simp
theorem ycr : ∀ st < 10, ∀ e < 16, ((fsmAt st e).1.map fun a => if a = 7 ∨ a = 8 then 1 else 0).sum ≤ 1 := by decide +kernel
theorem cnt_le (r : Option Reply) (l : List Nat) : (l.map (cnt r)).sum ≤ (l.map fun a => if a = 7 ∨ a = 8 then 1 else 0).sum := by
 induction l with
 | nil => exact Nat.le_refl _
 | cons a l ih =>
  rw [List.map_cons, List.sum_cons, List.map_cons, List.sum_cons]
  have : cnt r a ≤ if a = 7 ∨ a = 8 then 1 else 0 := by
   unfold cnt
   by_cases h : a = 7 ∨ a = 8
   ·rw [if_pos h]; split <;> omega
   ·rw [if_neg h, if_neg (fun e => h e.2)]; exact Nat.le_refl _
  omega
theorem y55 {n : Neg} {k d : Nat} (hst : n.m.state ≤ 9) (hk : n.naks ≤ k) (hd : n.dropped ≤ d) (e : Nat) (he : e < 16) (r : Option Reply) : AB (k + 1) d (n.event e r) := by
 unfold Neg.event Neg.acts
 have h := AB.acts (r := r) (d := d) (n.m.act2 (e : Int)).1 (k := k) (x := ({ n with m := (n.m.act2 (e : Int)).2 }, mute)) ⟨hk, hd, fun p hp => by cases hp⟩
 have h2 : ((n.m.act2 (e : Int)).1.map (cnt r)).sum ≤ 1 := by
  refine Nat.le_trans (cnt_le r _) ?_
  unfold Mach.act2
  split
  ·exact ycr n.m.state (by omega) e he
  ·exact Nat.zero_le _
 exact ⟨Nat.le_trans h.1 (by omega), h.2⟩
theorem tick_AB {n : Neg} {k d : Nat} (hk : n.naks ≤ k) (hd : n.dropped ≤ d) : AB k d n.tick := by
 unfold Neg.tick Neg.acts
 have h := AB.acts (r := none) (d := d) n.m.tick.1 (k := k) (x := ({ n with m := n.m.tick.2 }, mute)) ⟨hk, hd, fun p hp => by cases hp⟩
 rw [cnt_none] at h
 exact h
theorem y7c {n : Neg} {k d : Nat} (hk : n.naks ≤ k) (hd : n.dropped ≤ d) : AB (k + 1) (d + 1) n.drop := ⟨by show n.naks ≤ _; omega, by show n.dropped + 1 ≤ _; omega, fun p hp => by cases hp⟩
theorem AB.less {k d k' d' : Nat} {x : Neg × Said} (g : AB k d x) (h1 : k ≤ k') (h2 : d ≤ d') : AB k' d' x := ⟨Nat.le_trans g.1 h1, Nat.le_trans g.2.1 h2, g.2.2⟩
theorem y9y {n : Neg} {k d : Nat} (hst : n.m.state ≤ 9) (hk : n.naks ≤ k) (hd : n.dropped ≤ d) (p : Pkt) (l : List Opt) (j : Nat × List Opt) : AB (k + 1) d (n.judgedAs p l j) := by
 unfold Neg.judgedAs
 dsimp only
 by_cases hj2 : j.1 = 2
 ·rw [if_pos hj2]
  have h := y55 hst hk hd 6 (by decide) (some ⟨p, j.1, j.2⟩)
  split
  ·exact h
  ·exact h
 ·rw [if_neg hj2, if_neg (fun h => hj2 h.1)]
  exact y55 hst hk hd 7 (by decide) _
theorem yfq {n : Neg} {k : Nat} (hst : n.m.state ≤ 9) (hk : n.naks ≤ k) (hd : n.dropped ≤ k) (p : Pkt) : AB (k + 1) (k + 1) (n.answered p) := by
 unfold Neg.answered
 split
 ·exact y7c hk hd
 split
 ·split
  ·exact (y55 (n := { n with waits := false, acked := (split n.ours).2 }) hst hk hd 8 (by decide) _).less (Nat.le_refl _) (by omega)
  ·exact y7c hk hd
 split
 ·exact y7c hk hd
 split
 ·split
  ·exact (y55 (n := { n with request := left n.rules n.request (split p.data).2, waits := false }) hst hk hd 9 (by decide) _).less (Nat.le_refl _) (by omega)
  ·exact y7c hk hd
 ·exact (y55 (n := { n with request := naked n.rules n.request (split p.data).2, waits := false }) hst hk hd 9 (by decide) _).less (Nat.le_refl _) (by omega)
theorem input_AB {x : Lcp} {k : Nat} (hst : x.n.m.state ≤ 9) (hk : x.n.naks ≤ k) (hd : x.n.dropped ≤ k) (p : Pkt) (hp : PLen p) : AB (k + 1) (k + 1) ((x.input p).1.n, (x.input p).2.said) := by
 have hev : ∀ e : Nat, e < 16 → ∀ r, AB (k + 1) (k + 1) (x.n.event e r) := fun e he r => (y55 hst hk hd e he r).less (Nat.le_refl _) (by omega)
 have hdr := y7c hk hd
 have hmute : AB (k + 1) (k + 1) (x.n, mute) := ⟨by show x.n.naks ≤ _; omega, by show x.n.dropped ≤ _; omega, fun p hp => by cases hp⟩
 unfold Lcp.input
 split
 ·exact hdr
 split
 ·show AB (k + 1) (k + 1) (x.request p)
  unfold Lcp.request
  split
  ·exact hdr
  split
  ·rw [y6t]; exact (y9y hst hk hd p _ _).less (Nat.le_refl _) (by omega)
  ·exact (y9y hst hk hd p _ _).less (Nat.le_refl _) (by omega)
 split
 ·split
  ·exact hdr
  split
  ·exact hev 14 (by decide) _
  ·exact hev 13 (by decide) _
 split
 ·rename_i h9
  split
  ·exact hdr
  rename_i hlen
  split
  ·refine AB.sent (x := x.n.by 15 p) (hev 15 (by decide) _) (hev 15 (by decide) _).1 rfl rfl ?_
   show (wide _ 4 ++ p.data.drop 4).length ≤ 100000
   rw [List.length_append, wide_length, List.length_drop]
   have : p.data.length ≤ 100000 := hp
   omega
  ·exact hev 15 (by decide) _
 split
 ·split
  ·exact hmute
  ·exact hdr
 ·show AB (k + 1) (k + 1) (x.n.input p)
  unfold Neg.input
  split
  ·exact hdr
  split
  ·exact yfq hst hk hd p
  split
  ·exact hev 10 (by decide) _
  split
  ·exact hev 11 (by decide) _
  split
  ·split
   ·exact hdr
   ·split
    ·exact hev 14 (by decide) _
    ·exact hev 13 (by decide) _
  ·exact hev 12 (by decide) _
def LoopT (c : Cfg) (M s : Nat) (x : Lcp) (q : List Pkt) : Prop := y43 c M s x q ∧ x.n.naks ≤ s ∧ x.n.dropped ≤ s ∧ ∀ p ∈ q, PLen p
section
variable {c : Cfg} {M s : Nat} {x : Lcp} {q t : List Pkt} {p : Pkt}
theorem loopT_input (hM : M ≠ 0) (hm : M < 4294967296) (hs : 1 ≤ s) (hs2 : s ≤ 998) (g : LoopT c M s x (p :: t)) : LoopT c M (s + 1) (x.input p).1 (t ++ (x.input p).2.said.send) := by
 obtain ⟨g1, g2, g3, g4⟩ := g
 have h := input_AB g1.2.1 g2 g3 p (g4 p List.mem_cons_self)
 refine ⟨loop_input hM hm hs hs2 g1, h.1, h.2.1, fun p' hp => ?_⟩
 rcases List.mem_append.1 hp with hp | hp
 ·exact g4 p' (List.mem_cons_of_mem _ hp)
 ·exact h.2.2 p' hp
theorem loopT_tick (hM : M ≠ 0) (hm : M < 4294967296) (hs : 1 ≤ s) (hs2 : s ≤ 998) (g : LoopT c M s x q) : LoopT c M s x.tick.1 (q ++ x.tick.2.said.send) := by
 obtain ⟨g1, g2, g3, g4⟩ := g
 have h := tick_AB g2 g3
 refine ⟨loop_ticks hM hm hs hs2 g1, h.1, h.2.1, fun p' hp => ?_⟩
 rcases List.mem_append.1 hp with hp | hp
 ·exact g4 p' hp
 ·exact h.2.2 p' hp
theorem loopT_start (hM : M ≠ 0) (hm : M < 4294967296) (c : Cfg) (t u : Nat) : LoopT c M 1 ⟨c, begun c.rules (c.ask M) t u⟩ [⟨1, 1, (options (c.ask M)).2⟩] :=
 ⟨loop_start hM hm c t u, Nat.zero_le _, Nat.zero_le _, fun p hp => by rw [List.mem_singleton.1 hp]; have := y5g (c.ask M); show (options (c.ask M)).2.length ≤ 100000; omega⟩
end
end Pure
open Go.RowKit
theorem loopT_more {c : Pure.Cfg} {M s : Nat} {x : Pure.Lcp} {q : List Pure.Pkt} (g : Pure.LoopT c M s x q) : Pure.LoopT c M (s + 1) x q := by
 obtain ⟨⟨g1, g2, h, g3, g4⟩, g5, g6, g7⟩ := g
 exact ⟨⟨g1, g2, h, g3.less (Nat.le_succ s), fun p hp => (g4 p hp).less (Nat.le_succ s) (fun e => e)⟩, by omega, by omega, g7⟩
theorem yhp (V : Pure.Vals) (w : World) : (Instr.field 39 (y0n V) 7).run Tryz.prog w = .ok (.int .u32 (V.magic : Int)) w := by kernel_rfl
theorem ycw (n : Int) (m : Nat) (hm : m < 4294967296) (tk : Nat) (htk : tk < 256) (w : World) (env : Env14 w) :
  Calls Tryz.prog 8 #[.int .i64 n, .int .u32 (m : Int), .int .u8 (tk : Int)] w fun e w' => e = .returned (.bool true) ∧ Below w.heap.size w w' := by
 have HENV := xhd env
 have HMM := xhd hm
 have HTK := xhd htk
 have HI := xhd y24
 have HAW := xhd (y4p w env.env)
 clear env hm htk
 go_enter Tryz.func8, Tryz.ntmps8
 go_wp2_with fail
 refine HAW.out.mono ?_
 rintro e w1 ⟨rfl, hk1⟩
 have HK1 := xhd hk1
 clear hk1 HAW
 by_cases hm0 : m = 0
 ·have d1 : ((m : Int) == 0) = true := by rw [beq_iff_eq]; omega
  go_wp2_with fail
  go_ret
  exact ⟨rfl, HK1.out.to_below⟩
 have d1 : ((m : Int) == 0) = false := by rw [beq_eq_false_iff_ne]; omega
 by_cases hm1 : m = 4294967295
 ·have d2 : ((m : Int) == 4294967295) = true := by rw [beq_iff_eq]; omega
  go_wp2_with fail
  go_ret
  exact ⟨rfl, HK1.out.to_below⟩
 have d2 : ((m : Int) == 4294967295) = false := by rw [beq_eq_false_iff_ne]; omega
 have HM0 := xhd hm0
 clear hm0 hm1
 have HMA := xhd (y2m n 3 w1)
 go_upto_region 5 with fail
 clear d1 d2
 refine wp_region_list ?_
 refine Go.Great.wpList_runTo rfl (some 21) rfl (.int .i64 n) w1 rfl ?_
 refine y1m rfl (some 22) rfl 13 #[.int .i64 (n), .int .i64 3] (by kernel_rfl) HMA.out ?_
 rintro e w3a ⟨a, rfl, ha, hk⟩
 refine ⟨_, rfl, ?_⟩
 obtain ⟨sa, hsa⟩ : ∃ q, q = (n % 2 == 1) := ⟨_, rfl⟩
 rw [← hsa] at ha
 have HAA := xhd (show MadeIs a sa 4 from ha)
 have HK3 := xhd (HK1.out.trans hk)
 clear ha hk HMA HK1 hsa
 obtain ⟨ab, hab⟩ : ∃ q, q = w3a.heap.size := ⟨_, rfl⟩
 refine Go.Great.wpList_runTo rfl (some 7) rfl _ _ (y19 _ _ _ _ _ _) ?_
 rw [← hab]
 obtain ⟨w3, hw3⟩ : ∃ q, q = w3a.alloc (.cells y0z 25) := ⟨_, rfl⟩
 rw [← hw3]
 have za : Blk w3 ab 25 y0z := by rw [hw3, hab]; exact Blk.new w3a _ _
 have k3 : Keeps y01 w3a w3 := by rw [hw3]; exact (Keeps.refl _ w3a).alloc _
 obtain ⟨w4, hw4⟩ : ∃ q, q = w3.setRow ab (y0d a nmN scS).toArray := ⟨_, rfl⟩
 have ba : Blk w4 ab 25 (y0d a nmN scS).toArray := by rw [hw4]; exact za.rowSet _
 have k4 : Keeps (only ab) w3 w4 := by rw [hw4]; exact (Keeps.refl (only ab) w3).rowSet (fun _ => rfl) _
 have HBA := xhd ba
 have HK4 := xhd (HK3.out.trans (show Keeps y01 w3a w4 from k3.trans' k4 (fun i hi hl => by have e : i = ab := hi; omega)))
 simp only [Act.put, xqA, xqE, xqF]
 refine wpList_store_row rfl 25 (.tmp 7) (.tmp 22) rfl ab _ rfl rfl 25 _ za (by rw [HI.out]; rfl) rfl (by rw [List.all_toArray]; rfl) ?_
 rw [← hw4]
 clear hab hw3 za k3 hw4 ba k4 HK3
 have HFA := xhd (show MadeIs a a.server 4 by rw [HAA.out.server]; exact HAA.out)
 have HNX := xhd (y1u a a.server 4 HFA.out (by decide) m HMM.out w4 ((HENV.out.keeps HK4.out).env))
 go_upto_region 6 with fail
 simp only [Act.put]
 refine wp_region_list ?_
 refine wpList_load_mid rfl 25 (.tmp 7) rfl ab 0 rfl (y0d a nmN scS) _ (fun j v hv => by rw [Nat.zero_add, HBA.out.cell, List.getElem?_toArray]; exact hv) Tryz.underlying25 rfl HI.out ?_
 go_wp2_with fail
 refine HNX.out.mono ?_
 rintro e w6 ⟨gx, fx, Rx, rfl, hx, x0, x1, x2, x3, hk6⟩
 have HL0 := xhd (solo_new HENV.out HK4.out.to_below hk6 hx x1 x2 (Keeps.refl _ w6))
 clear hx x0 x1 x2 x3 hk6 HNX HBA HK4
 obtain ⟨X1, b1, b2, b3, b4⟩ := y7x a m
 have hnil : ((Pure.newLcp a m).n.m.act2 (0 : Int)).1 = [] := rfl
 have HT0 := xhd (Pure.loopT_start HM0.out HMM.out a a.tries.toNat a.timeout.toNat)
 obtain ⟨XX, hXX⟩ : ∃ q, q = Pure.newLcp a m := ⟨_, rfl⟩
 rw [← hXX] at HL0 b1 b3 hnil
 obtain ⟨X2, hX2⟩ : ∃ q : Pure.Lcp, q = ⟨a, Pure.begun a.rules (a.ask m) a.tries.toNat a.timeout.toNat⟩ := ⟨_, rfl⟩
 obtain ⟨s0, hs0⟩ : ∃ q, q = [(⟨1, 1, (Pure.options (a.ask m)).2⟩ : Pure.Pkt)] := ⟨_, rfl⟩
 rw [← hX2, ← hs0] at HT0
 rw [← hX2, ← hs0] at b4
 have HUP := xhd (HL0.out.up hnil b3 rfl)
 have HN1 := xhd b2
 obtain ⟨o2, ho2⟩ : ∃ q, q = Pure.LSaid.of (Pure.sends s0) := ⟨_, rfl⟩
 have HSL := xhd (show s0.length = 1 by rw [hs0]; rfl)
 have HS2 := xhd (show o2.said.send = s0 by rw [ho2]; rfl)
 have HB4 := xhd (show X1.act 2 = (X2, o2) by rw [ho2]; exact b4)
 clear hXX hX2 hs0 b1 b2 b3 b4 hnil ho2 HL0
 have hsent := y3a
 have hlsent := y2p
 go_wp2_with fail
 refine HUP.out.mono ?_
 rintro e w7 ⟨rfl, hl7⟩
 have HDO := xhd (hl7.acts 2 (by omega) HN1.out HB4.out)
 clear hl7 HUP
 go_wp2_with fail
 refine HDO.out.mono ?_
 rintro e w8 ⟨sv, rfl, hl8⟩
 have HL8 := xhd hl8
 clear hl8 HDO
 go_wp2_with (at_builtin; refine y0t ?_)
 unfold Hid
 obtain ⟨F7, G7, xs7, ys7, hwin7, hrow7, hone7, hlen7, hput7⟩ := HL8.out.put (Nat.zero_le _)
 refine y89 rfl (.tmp 39) (.tmp 43) rfl rfl rfl hwin7 hrow7 hone7 hlen7 ?_
 intro v9 w9 hwin hk9
 have HL9 := xhd (show y1b w w9 v9 s0 gx X2 by have := hput7 v9 w9 hwin hk9; rw [List.nil_append, HS2.out] at this; exact this)
 clear hwin7 hrow7 hone7 hlen7 hput7 hwin hk9 HL8
 go_wp2_with fail
 go_loopw [10, 11] (fun v i wr => ∃ k : Nat, k ≤ 200 ∧ i = .int .i64 (k : Int) ∧ ∃ q X, y1b w wr v q gx X ∧ Pure.LoopT a m (1 + k) X q ∧ q.length ≤ 1 + 200 * k) (fun _ i _ => 200 - (intOf i).toNat)
 case atStart => exact ⟨0, by omega, rfl, s0, X2, HL9.out, HT0.out, by rw [HSL.out]; omega⟩
 case round =>
  obtain ⟨k, hk, rfl, q, X, hl, ht, hql⟩ := hrel
  have HL := xhd hl
  have HT := xhd ht
  have HQ := xhd hql
  clear HL9 HT0 hl ht hql HS2 HB4 HN1 HSL
  by_cases hk2 : k < 200
  ·have d0 : decide ((k : Int) < 200) = true := decide_eq_true (by omega)
   have HST := xhd (HL.out.state)
   go_wp2_with fail
   refine HST.out.mono ?_
   rintro e w' ⟨rfl, rfl⟩
   by_cases h9 : X.n.m.state = 9
   ·have d1 : ((X.n.m.state : Int) == 9) = true := by rw [beq_iff_eq]; omega
    have HMI := xhd (HL.out.mines)
    have hmag := yhp
    have d2 : (((X.mine.magic : Nat) : Int) != (m : Int)) = true := by
     rw [bne_iff_ne]
     have := Pure.loop_mine HM0.out HT.out.1
     omega
    go_wp2_with fail
    refine HMI.out.mono ?_
    rintro e w5 ⟨rfl, hk5⟩
    go_wp2_with fail
    go_ret
    exact ⟨rfl, (HL.out.quiet hk5).below⟩
   have d1 : ((X.n.m.state : Int) == 9) = false := by rw [beq_eq_false_iff_ne]; omega
   clear h9
   obtain ⟨A, c, rfl⟩ := HL.out.form
   go_upto_region 16 with fail
   have k0 : (0 : Int) ≤ (k : Int) := by omega
   have HKK := xhd hk2
   have htk := HTK.out
   go_cut [74] from 45 to 94 (fun v wx => wx = wr ∧ ∃ b : Bool, v = .bool b)
   case first =>
    by_cases hz : q.length = 0
    ·have dz : ((q.length : Int) == 0) = true := by rw [beq_iff_eq]; omega
     go_wp2_with fail
     go_meet
     exact ⟨rfl, true, rfl⟩
    ·have dz : ((q.length : Int) == 0) = false := by rw [beq_eq_false_iff_ne]; omega
     have lw : IntKind.i64.wrap (tk : Int) = (tk : Int) := IntWalk.i64_in _ (by omega)
     go_wp2_with fail
     go_meet
     exact ⟨rfl, _, rfl⟩
   case rest =>
   obtain ⟨rfl, b, rfl⟩ := hcut
   clear htk
   go_upto_if 74 with fail
   go_cut [10] from 45 to 94 (fun v wx => ∃ q' X', y1b w wx v q' gx X' ∧ Pure.LoopT a m (1 + k) X' q' ∧ q'.length ≤ 1 + 200 * k + 100)
   case first =>
    cases b
    ·go_wp2_with fail
     go_meet
     exact ⟨q, X, HL.out, HT.out, by have := HQ.out; omega⟩
    ·obtain ⟨X', hX'⟩ : ∃ y, y = X.tick.1 := ⟨_, rfl⟩
     obtain ⟨o', ho'⟩ : ∃ y, y = X.tick.2 := ⟨_, rfl⟩
     have HE := xhd (show X.tick = (X', o') by rw [hX', ho'])
     have hT2 := Pure.loopT_tick HM0.out HMM.out (Nat.le_add_right 1 k) (by have := HKK.out; omega) HT.out
     rw [← hX', ← ho'] at hT2
     have HT2 := xhd hT2
     have HDO := xhd (HL.out.ticks (by have := HT.out.2.1; have := HKK.out; omega) HE.out)
     clear hX' ho' hT2
     go_wp2_with fail
     refine HDO.out.mono ?_
     rintro e w8 ⟨sv, rfl, hl8⟩
     have HL8 := xhd hl8
     clear hl8 HDO
     go_wp2_with (at_builtin; refine y0t ?_)
     unfold Hid
     obtain ⟨F7, G7, xs7, ys7, hwin7, hrow7, hone7, hlen7, hput7⟩ := HL8.out.put (by have := HQ.out; have := HKK.out; omega)
     refine y89 rfl (.tmp 75) (.tmp 79) rfl rfl rfl hwin7 hrow7 hone7 hlen7 ?_
     intro v9 w9 hwin hk9
     have HL9 := xhd (hput7 v9 w9 hwin hk9)
     have HFW := xhd HL8.out.few
     clear hwin7 hrow7 hone7 hlen7 hput7 hwin hk9 HL8
     go_wp2_with fail
     go_meet
     exact ⟨_, X', HL9.out, HT2.out, by rw [List.length_append]; have := HQ.out; have := HFW.out; omega⟩
   case rest =>
   clear HL HT HQ HST
   obtain ⟨q', X', hl, ht, hql⟩ := hcut
   generalize wc = wr at hl ⊢
   have HL := xhd hl
   have HT := xhd ht
   have HQ := xhd hql
   clear hl ht hql
   obtain ⟨A2, c2, rfl⟩ := HL.out.form
   cases q' with
   | nil =>
    go_wp2_with fail
    exact ⟨⟨k + 1, by omega, rfl, [], X', HL.out, loopT_more HT.out, by simp⟩, y2x hk2⟩
   | cons p t =>
    obtain ⟨bb, oo, cc, d, hV, hc, hcell, hh⟩ := HL.out.head
    obtain ⟨D, cd, rfl, _⟩ := hh.form
    have HHD := xhd hh
    rw [hV] at HL ⊢
    have p0 := hcell 0 _ rfl
    have p1 := hcell 1 _ rfl
    have p2 := hcell 2 _ rfl
    rw [Nat.add_zero] at p0
    have dz : (((t.length + 1 : Nat) : Int) == 0) = false := by rw [beq_eq_false_iff_ne]; omega
    have HC := xhd hc
    clear hcell hh hV
    obtain ⟨pb, hpb⟩ : ∃ y, y = wr.heap.size := ⟨_, rfl⟩
    go_upto_region 20 with fail
    rw [← hpb]
    generalize hw5 : wr.alloc _ = w5
    have hk5 : Keeps y01 wr w5 := by rw [← hw5]; exact (Keeps.refl _ wr).alloc _
    have hB5 : Blk w5 pb 56 #[.int .i64 p.code, .int .i64 p.id, .slice D p.data.length cd] := by rw [← hw5, hpb]; exact Blk.new wr _ _
    obtain ⟨cl, RR, FF, hLS⟩ := HL.out
    have HPF := xhd (show ¬ FF pb from fun e => by have := (hLS.cf pb e).2; omega)
    have HPG := xhd (show pb ≠ gx.g ∧ pb ≠ gx.gm by have := hLS.me.lt; omega)
    have HLS := xhd (hLS.quiet hk5)
    have HH5 := xhd (HHD.out.quiet hk5)
    clear hLS HL HHD hpb hw5 hk5 p0 p1 p2
    have c0 : w5.cell? ⟨pb, 0, none⟩ = some (.int .i64 p.code) := by rw [hB5.cell]; rfl
    have c1 : w5.cell? ⟨pb, 1, none⟩ = some (.int .i64 p.id) := by rw [hB5.cell]; rfl
    have c2 : w5.cell? ⟨pb, 2, none⟩ = some (.slice D p.data.length cd) := by rw [hB5.cell]; rfl
    clear hB5
    obtain ⟨X3, hX3⟩ : ∃ y, y = (X'.input p).1 := ⟨_, rfl⟩
    obtain ⟨o3, ho3⟩ : ∃ y, y = (X'.input p).2 := ⟨_, rfl⟩
    have HE := xhd (show X'.input p = (X3, o3) by rw [hX3, ho3])
    have hT2 := Pure.loopT_input HM0.out HMM.out (Nat.le_add_right 1 k) (by have := HKK.out; omega) HT.out
    rw [← hX3, ← ho3] at hT2
    have HT2 := xhd hT2
    have HNK := xhd (show X'.n.naks ≤ 1000 ∧ X'.n.dropped ≤ 1000000 ∧ p.data.length ≤ 1000000 by
     have h1 := HT.out.2.1
     have h2 := HT.out.2.2.1
     have h3 := HT.out.2.2.2 p List.mem_cons_self
     have h4 : p.data.length ≤ 100000 := h3
     have := HKK.out
     omega)
    clear hX3 ho3 hT2
    have hslice := y50 (some ⟨bb, oo, none⟩) t.length cc HC.out
    refine y0b (fun w' => w'.cell? ⟨pb, 0, none⟩ = some (.int .i64 p.code) ∧ w'.cell? ⟨pb, 1, none⟩ = some (.int .i64 p.id) ∧ w'.cell? ⟨pb, 2, none⟩ = some (.slice D p.data.length cd)) 8 9 rfl (by kernel_rfl) ⟨c0, c1, c2⟩ (fun hHeld => ?_)
    have HSW := hHeld
    clear hHeld
    have HK0d := xhd ((Keeps.refl y01 w5).drew)
    refine y00 (i := 0) rfl (by kernel_rfl) (fun _ _ _ h => h) (Or.inl ⟨by rfl, by intro w hSw; obtain ⟨s0, s1, s2⟩ := hSw; go_simp; try with_reducible rfl⟩) HSW.out ?_
    simp only [Act.put, xqA, xqB, xqD, xqE, xqF]
    refine y00 (i := 1) rfl (by kernel_rfl) (fun _ _ _ h => h) (Or.inl ⟨by rfl, by intro w hSw; obtain ⟨s0, s1, s2⟩ := hSw; go_simp; try with_reducible rfl⟩) HSW.out ?_
    simp only [Act.put, xqA, xqB, xqC, xqD, xqE, xqF]
    refine y00 (i := 2) rfl (by kernel_rfl) (fun _ _ _ h => h) (Or.inl ⟨by rfl, by intro w hSw; obtain ⟨s0, s1, s2⟩ := hSw; go_simp; try with_reducible rfl⟩) HSW.out ?_
    simp only [Act.put, xqA, xqB, xqC, xqD, xqE, xqF]
    refine y00 (i := 3) rfl (by kernel_rfl) (fun _ _ _ h => h) (Or.inl ⟨by rfl, by intro w hSw; obtain ⟨s0, s1, s2⟩ := hSw; go_simp; try with_reducible rfl⟩) HSW.out ?_
    simp only [Act.put, xqA, xqB, xqC, xqD, xqE, xqF]
    refine y03 (i := 4) (by kernel_rfl) rfl (fun K hK => ?_)
    try rw [if_pos (by rfl)]
    go_simp
    refine ((HLS.out.quiet HK0d.out).hears _ p (HH5.out.quiet HK0d.out) HNK.out.1 HNK.out.2.1 HNK.out.2.2 HE.out).mono ?_
    rintro e w8 ⟨sv3, rfl, hsent3, hk8⟩
    obtain ⟨AS, cS, rfl⟩ := hsent3.sent.form
    have HFW := xhd hsent3.sent.few
    have HST3 := xhd (y3i.tail hsent3)
    have HSA := xhd (show w8.cell? ⟨pb, 0, none⟩ = some (.int .i64 p.code) ∧ w8.cell? ⟨pb, 1, none⟩ = some (.int .i64 p.id) ∧ w8.cell? ⟨pb, 2, none⟩ = some (.slice D p.data.length cd) from
     have hne : ¬ (pb = gx.g ∨ pb = gx.gm) := fun e => e.elim HPG.out.1 HPG.out.2
     ⟨y1l hk8 (y04 c0 HK0d.out) hne, y1l hk8 (y04 c1 HK0d.out) hne, y1l hk8 (y04 c2 HK0d.out) hne⟩)
    clear hsent3 hk8 c0 c1 c2 HLS HH5
    refine hK.out _ _ (fun _ => HSA.out) ?_
    clear hK K
    try simp only [Act.put, xqA, Nat.reduceAdd, xqB, xqC, xqD, xqE, xqF]
    refine y00 (i := 5) rfl (by kernel_rfl) (fun _ _ _ h => h) (Or.inl ⟨by rfl, by intro w hSw; obtain ⟨s0, s1, s2⟩ := hSw; go_simp; try with_reducible rfl⟩) HSA.out ?_
    simp only [Act.put, xqA, xqB, xqC, xqD, xqE, xqF]
    refine y00 (i := 6) rfl (by kernel_rfl) (fun _ _ _ h => h) (Or.inl ⟨by rfl, by intro w hSw; obtain ⟨s0, s1, s2⟩ := hSw; go_simp; try with_reducible rfl⟩) HSA.out ?_
    simp only [Act.put, xqA, xqB, xqC, xqD, xqE, xqF]
    refine y03 (i := 7) (by kernel_rfl) rfl (fun K hK => ?_)
    rw [if_pos (by rfl)]
    obtain ⟨G, xs, ys, hwo, hsr, h1c, hlen, hput⟩ := HST3.out.put (by have h := HQ.out; rw [List.length_cons] at h; have := HKK.out; omega)
    refine y0u (.tmp 88) (.tmp 93) rfl rfl rfl hwo hsr h1c hlen ?_
    intro v9 w9 hwin hkc
    have HL9 := xhd (hput v9 w9 hwin hkc)
    have HSB := xhd (show w9.cell? ⟨pb, 0, none⟩ = some (.int .i64 p.code) ∧ w9.cell? ⟨pb, 1, none⟩ = some (.int .i64 p.id) ∧ w9.cell? ⟨pb, 2, none⟩ = some (.slice D p.data.length cd) from
     ⟨y1l hkc HSA.out.1 HPF.out, y1l hkc HSA.out.2.1 HPF.out, y1l hkc HSA.out.2.2 HPF.out⟩)
    clear hput hwin hkc hwo hsr h1c hlen HST3
    refine hK.out _ _ (fun _ => HSB.out) ?_
    clear hK K
    try simp only [Act.put, xqA, xqB, xqC, xqD, xqE, xqF]
    refine y03 (i := 8) (by kernel_rfl) rfl (fun K hK => ?_)
    go_simp
    refine hK.out _ _ (fun h => absurd rfl h) ?_
    clear hK K
    refine y09 (by kernel_rfl) ?_ _
    clear HSA HSB HSW HK0d HPF HPG
    go_wp2_with fail
    exact ⟨⟨k + 1, by omega, rfl, _, X3, HL9.out, HT2.out, by rw [List.length_append]; have h := HQ.out; rw [List.length_cons] at h; have := HFW.out; omega⟩, y2x hk2⟩
  ·have d0 : decide ((k : Int) < 200) = false := decide_eq_false (by omega)
   go_wp2_with fail
   go_ret
   exact ⟨rfl, HL.out.below⟩
theorem lcpLoops_walk (a0 a1 a2 : Int) (w : World) (hg : Env14 w) (_ : (Lit.int .i64 a0).wf = true) (h1 : (Lit.int .u32 a1).wf = true) (h2 : (Lit.int .u8 a2).wf = true) :
  Calls Tryz.prog 8 #[.int .i64 a0, .int .u32 a1, .int .u8 a2] w fun e w' => e = .returned (.bool true) ∧ Below w.heap.size w w' := by
 obtain ⟨b1, c1⟩ := y99 h1
 obtain ⟨b2, c2⟩ := yao h2
 obtain ⟨m, rfl⟩ : ∃ n : Nat, a1 = (n : Int) := ⟨a1.toNat, by omega⟩
 obtain ⟨t, rfl⟩ : ∃ n : Nat, a2 = (n : Int) := ⟨a2.toNat, by omega⟩
 exact ycw a0 m (by omega) t (by omega) w hg
end Go.Proofs.YtmgicbckgpdkcaaGreatDoor
