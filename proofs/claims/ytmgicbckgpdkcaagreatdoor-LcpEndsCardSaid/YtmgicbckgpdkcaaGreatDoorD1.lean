/- What a walk is told of a slice of integers that came in. -/
import Derived.Test.YtmgicbckgpdkcaaGreatDoorC28
namespace Go.Proofs.YtmgicbckgpdkcaaGreatDoor
open Go.RowKit
def y42 (k : IntKind) (w : World) (a : Option Addr) (len cap : Nat) (zs : List Int) : Prop :=
 (a = none ∧ len = 0 ∧ cap = 0 ∧ zs = []) ∨
 ∃ x, a = some x ∧ len ≤ cap ∧ cap ≤ maxLen ∧ zs.length = cap ∧ (∀ i, i < zs.length → w.cell? (x.add i) = some (.int k (zs.getD i 0))) ∧ ∀ n ∈ zs, (Lit.int k n).wf = true
theorem yev {w : World} {x : Addr} {u : Value} (h : w.cell? (x.add 0) = some u) : ∃ b off, x = ⟨b, off, none⟩ := by
 obtain ⟨b, off, spot⟩ := x
 cases spot with
 | none => exact ⟨b, off, rfl⟩
 | some s =>
  exfalso
  have hs : (Addr.add ⟨b, off, some s⟩ 0).spot = some s := rfl
  unfold World.cell? at h
  rw [hs] at h
  split at h
  ·simp at h
  ·cases h
theorem y42.row {k : IntKind} {w : World} {a : Option Addr} {len cap : Nat} {zs : List Int} (h : y42 k w a len cap zs) :
  Row w (fun b => b < w.heap.size) 1 (.slice a len cap) len ((zs.take len).map (Value.int k)) ∧ ∀ n ∈ zs.take len, (Lit.int k n).wf = true := by
 rcases h with ⟨rfl, rfl, rfl, rfl⟩ | ⟨x, rfl, hl, hm, hz, hc, hw⟩
 ·exact ⟨⟨by simp, by simp [maxLen], none, 0, rfl, Nat.le_refl _, fun _ => rfl, fun h => absurd h (by omega)⟩, by simp⟩
 ·refine ⟨⟨by simp; omega, by omega, _, cap, rfl, hl, by simp, fun hn => ?_⟩, fun n hn => hw n (List.mem_of_mem_take hn)⟩
  obtain ⟨b, off, rfl⟩ := yev (hc 0 (by omega))
  have h0 := hc 0 (by omega)
  rw [y54] at h0
  refine ⟨b, off, rfl, y0x h0, fun j u hu => ?_⟩
  have hj : j < len := by
   have := (List.getElem?_eq_some_iff.1 hu).1
   simp at this
   omega
  have hcj := hc j (by omega)
  rw [y54] at hcj
  rw [hcj]
  rw [List.getElem?_map, List.getElem?_take, if_pos hj, List.getElem?_eq_getElem (by omega)] at hu
  rw [List.getD_eq_getElem?_getD, List.getElem?_eq_getElem (by omega)]
  exact hu
theorem y42.bytes {w : World} {a : Option Addr} {len cap : Nat} {zs : List Int} (h : y42 .u8 w a len cap zs) :
  ∃ bs : List UInt8, bs.length = len ∧ Row w (fun b => b < w.heap.size) 1 (.slice a len cap) len (bs.map fun b => Value.int .u8 b.toNat) := by
 obtain ⟨hr, hw⟩ := h.row
 have hl := hr.1
 refine ⟨(zs.take len).map fun z => UInt8.ofNat z.toNat, by simpa using hl, ?_⟩
 have e : (((zs.take len).map fun z => UInt8.ofNat z.toNat).map fun b : UInt8 => Value.int .u8 b.toNat) = (zs.take len).map (Value.int .u8) := by
  rw [List.map_map]
  apply List.map_congr_left
  intro z hz
  have := yao (hw z hz)
  have h2 : z.toNat < 2 ^ 8 := by omega
  simp only [Function.comp, UInt8.toNat_ofNat', Nat.mod_eq_of_lt h2]
  congr 1
  omega
 rw [e]
 exact hr
open Go.ChangeShapes Go.WideShapes Go.Deep
section
variable {H : Type} {enc : TypeId × Value → H} {P : Program} {w : World} {base : Nat} {held : Bool}
end
section
variable {H : Type} {enc : TypeId × Value → H} {P : Program} {w : World} {base : Nat} {held : Bool}
end
section
variable {H : Type} {enc : TypeId × Value → H} {P : Program} {w : World} {base : Nat} {held : Bool}
end
namespace Pure
def Apart (l : List Opt) : Prop := l.Pairwise fun a b => a.1 ≠ b.1
theorem yex {l : List Opt} (h : Apart l) (k : Nat) (o : Opt) (ho : l[k]? = some o) : hasType (l.take k) o.1 = false := by
 unfold hasType
 rw [List.any_eq_false]
 intro p hp
 simp only [decide_eq_true_eq]
 intro e
 obtain ⟨j, hj, hjl⟩ := List.getElem_of_mem hp
 rw [List.length_take] at hj
 have hkl : k < l.length := (List.getElem?_eq_some_iff.1 ho).1
 have h1 : l[j]'(by omega) = p := by rw [← hjl, List.getElem_take]
 have h2 : l[k]'hkl = o := (List.getElem?_eq_some_iff.1 ho).2
 have := List.pairwise_iff_getElem.1 h j k (by omega) hkl (by omega)
 rw [h1, h2] at this
 exact this e
theorem act_6_6 (c l t u : Nat) : (⟨6, c, l, t, u⟩ : Mach).act2 (6 : Nat) = ([7], ⟨8, c, l, t, u⟩) := rfl
theorem act_7_6 (c l t u : Nat) : (⟨7, c, l, t, u⟩ : Mach).act2 (6 : Nat) = ([7, 0], ⟨9, c, 0, t, u⟩) := rfl
theorem act_8_8 (c l t u : Nat) : (⟨8, c, l, t, u⟩ : Mach).act2 (8 : Nat) = ([4, 0], ⟨9, t, 0, t, u⟩) := rfl
theorem act_6_8 (c l t u : Nat) : (⟨6, c, l, t, u⟩ : Mach).act2 (8 : Nat) = ([4], ⟨7, t, l, t, u⟩) := rfl
theorem y9e (c l t u : Nat) : (⟨6, c, l, t, u⟩ : Mach).act2 (7 : Nat) = ([8], ⟨6, c, l, t, u⟩) := rfl
theorem act_8_9 (c l t u : Nat) : (⟨8, c, l, t, u⟩ : Mach).act2 (9 : Nat) = ([4, 6], ⟨8, t - 1, u, t, u⟩) := rfl
theorem act_6_9 (c l t u : Nat) : (⟨6, c, l, t, u⟩ : Mach).act2 (9 : Nat) = ([4, 6], ⟨6, t - 1, u, t, u⟩) := rfl
theorem y7u {n : Neg} {c l t u : Nat} {i : Int} {d : List UInt8} {o : List Opt} (hm : n.m = ⟨6, c, l, t, u⟩) (hs : split d = (0, o)) (hj : judge n.rules o (decide (t ≤ n.naks)) = (2, o)) :
  n.input ⟨1, i, d⟩ = ({ n with m := ⟨8, c, l, t, u⟩, theirs := o }, sends [⟨2, i, (options o).2⟩]) := by
 have h1 : ¬ n.m.state ≤ 1 := by rw [hm]; simp
 have h2 : ¬ (split d).1 ≠ 0 := by rw [hs]; simp
 have hj' : judge n.rules o (decide (n.m.tries ≤ n.naks)) = (2, o) := by rw [hm]; exact hj
 unfold Neg.input
 rw [if_neg h1, if_pos rfl, if_neg h2, hs]
 unfold Neg.judged
 rw [hj']
 dsimp only
 rw [if_pos rfl]
 unfold Neg.event
 rw [hm, act_6_6]
 rfl
theorem y6r {n : Neg} {c l t u : Nat} {i : Int} {d : List UInt8} {o : List Opt} (hm : n.m = ⟨7, c, l, t, u⟩) (hs : split d = (0, o)) (hj : judge n.rules o (decide (t ≤ n.naks)) = (2, o)) :
  n.input ⟨1, i, d⟩ = ({ n with m := ⟨9, c, 0, t, u⟩, theirs := o }, ⟨[⟨2, i, (options o).2⟩], true, false, false, false⟩) := by
 have h1 : ¬ n.m.state ≤ 1 := by rw [hm]; simp
 have h2 : ¬ (split d).1 ≠ 0 := by rw [hs]; simp
 have hj' : judge n.rules o (decide (n.m.tries ≤ n.naks)) = (2, o) := by rw [hm]; exact hj
 unfold Neg.input
 rw [if_neg h1, if_pos rfl, if_neg h2, hs]
 unfold Neg.judged
 rw [hj']
 dsimp only
 rw [if_pos rfl]
 unfold Neg.event
 rw [hm, act_7_6]
 rfl
theorem y6o {n : Neg} {c l t u : Nat} (hm : n.m = ⟨8, c, l, t, u⟩) (hw : n.waits = true) :
  n.input ⟨2, n.asked, n.ours⟩ = ({ n with m := ⟨9, t, 0, t, u⟩, waits := false, acked := (split n.ours).2 }, ⟨[], true, false, false, false⟩) := by
 have h1 : ¬ n.m.state ≤ 1 := by rw [hm]; simp
 unfold Neg.input
 rw [if_neg h1, if_neg (show ¬ (2 : Int) = 1 by decide), if_pos (.inl rfl)]
 unfold Neg.answered
 rw [if_neg (by simp [hw]), if_pos rfl, if_pos rfl]
 unfold Neg.event
 dsimp only
 rw [hm, act_8_8]
 rfl
theorem y6n {n : Neg} {c l t u : Nat} (hm : n.m = ⟨6, c, l, t, u⟩) (hw : n.waits = true) :
  n.input ⟨2, n.asked, n.ours⟩ = ({ n with m := ⟨7, t, l, t, u⟩, waits := false, acked := (split n.ours).2 }, mute) := by
 have h1 : ¬ n.m.state ≤ 1 := by rw [hm]; simp
 unfold Neg.input
 rw [if_neg h1, if_neg (show ¬ (2 : Int) = 1 by decide), if_pos (.inl rfl)]
 unfold Neg.answered
 rw [if_neg (by simp [hw]), if_pos rfl, if_pos rfl]
 unfold Neg.event
 dsimp only
 rw [hm, act_6_8]
 rfl
def anew (n : Neg) (l : List Opt) (c u : Nat) : Neg := { n with request := l, m := ⟨8, c, u, n.m.tries, n.m.timeout⟩, waits := true, id := n.next, asked := n.next, ours := (options l).2 }
theorem y6q {n : Neg} {c l t u : Nat} {d : List UInt8} {r : List Opt} (hm : n.m = ⟨8, c, l, t, u⟩) (hw : n.waits = true) (hs : split d = (0, r)) (hin : r.all (fun o => (split n.ours).2.any fun q => decide (o = q)) = true) :
  n.input ⟨4, n.asked, d⟩ = (anew n (left n.rules n.request r) (t - 1) u, sends [⟨1, n.next, (options (left n.rules n.request r)).2⟩]) := by
 have h1 : ¬ n.m.state ≤ 1 := by rw [hm]; simp
 have h2 : ¬ (split d).1 ≠ 0 := by rw [hs]; simp
 unfold Neg.input
 rw [if_neg h1, if_neg (show ¬ (4 : Int) = 1 by decide), if_pos (.inr (.inr rfl))]
 unfold Neg.answered
 rw [if_neg (by simp [hw]), if_neg (show ¬ (4 : Int) = 2 by decide), if_neg h2, if_pos rfl, hs, if_pos hin]
 unfold Neg.event anew
 dsimp only
 rw [hm, act_8_9]
 rfl
def knows (ts : List Int) (o : Opt) : Bool := decide (o.1 ∈ ts)
end Pure
namespace Pure
theorem y98 {x : Nat} (h : x < 65536) : bnum (wide x 2) = x := yde (by simpa using h)
end Pure
namespace Pure
theorem y9f (c l t u : Nat) : (⟨7, c, l, t, u⟩ : Mach).act2 (7 : Nat) = ([8], ⟨7, c, l, t, u⟩) := rfl
def y44 (n : Neg) (l : List Opt) (c u : Nat) : Neg := { n with request := l, m := ⟨6, c, u, n.m.tries, n.m.timeout⟩, waits := true, id := n.next, asked := n.next, ours := (options l).2 }
theorem y6p {n : Neg} {c l t u : Nat} {d : List UInt8} {r : List Opt} (hm : n.m = ⟨6, c, l, t, u⟩) (hw : n.waits = true) (hs : split d = (0, r)) (hin : r.all (fun o => (split n.ours).2.any fun q => decide (o = q)) = true) :
  n.input ⟨4, n.asked, d⟩ = (y44 n (left n.rules n.request r) (t - 1) u, sends [⟨1, n.next, (options (left n.rules n.request r)).2⟩]) := by
 have h1 : ¬ n.m.state ≤ 1 := by rw [hm]; simp
 have h2 : ¬ (split d).1 ≠ 0 := by rw [hs]; simp
 unfold Neg.input
 rw [if_neg h1, if_neg (show ¬ (4 : Int) = 1 by decide), if_pos (.inr (.inr rfl))]
 unfold Neg.answered
 rw [if_neg (by simp [hw]), if_neg (show ¬ (4 : Int) = 2 by decide), if_neg h2, if_pos rfl, hs, if_pos hin]
 unfold Neg.event y44
 dsimp only
 rw [hm, act_6_9]
 rfl
structure Side (rules orules : List Rule) (ask rej rest : List Opt) (r : Bool) : Prop where
 fa : Fine ask
 fr : Fine rej
 fs : Fine rest
 first : judge orules ask false = if r then (4, rej) else (2, ask)
 again : judge orules rest false = (2, rest)
 left : r = true → left rules ask rej = rest
 same : r = false → rest = ask
 sub : ∀ o ∈ rej, o ∈ ask
def y10 (n : Neg) (p : Pkt) : Neg × List Pkt := ((n.input p).1, (n.input p).2.send)
theorem y0k {n n' : Neg} {p : Pkt} {o : Said} {l : List Pkt} (h : n.input p = (n', o)) (hl : o.send = l) : y10 n p = (n', l) := by
 unfold y10
 rw [h, hl]
section
variable {rules orules : List Rule} {ask rej rest oask orej orest : List Opt} {r ro : Bool} {t u : Nat}
end
end Pure
namespace Pure
theorem yb4 {rules : List Rule} {rejects : Bool} {l : List Opt} (known : Opt → Bool) (hv : ∀ j o, l[j]? = some o → verdict rules rejects (l.take j) o = if known o then .pass else .reject) : ∀ k, judgeTo rules rejects l k = ((l.take k).filter fun o => !known o, [])
 | 0 => rfl
 | k + 1 => by
  have ih := yb4 known hv k
  unfold judgeTo
  cases hk : l[k]? with
  | none =>
   have : l.length ≤ k := by simpa using hk
   dsimp only
   rw [ih, List.take_of_length_le this, List.take_of_length_le (by omega)]
  | some o =>
   dsimp only
   rw [hv k o hk, ih]
   have e : l.take (k + 1) = l.take k ++ [o] := by rw [List.take_add_one, hk]; rfl
   rw [e, List.filter_append]
   by_cases h : known o = true
   ·rw [if_pos h]
    simp [h]
   ·rw [if_neg h]
    simp [h]
theorem ybe {rules : List Rule} {l : List Opt} (h : ∀ r ∈ rules, r.need = true → hasType l r.type = true) : ∀ k, y1f rules l [] k = []
 | 0 => rfl
 | k + 1 => by
  have ih := ybe h k
  unfold y1f
  cases hk : rules[k]? with
  | none => exact ih
  | some r =>
   dsimp only
   cases hn : r.need with
   | false => rw [if_pos (.inl rfl)]; exact ih
   | true => rw [if_pos (.inr (.inl (h r (List.mem_of_getElem? hk) hn)))]; exact ih
theorem y7w {rules : List Rule} {rejects : Bool} {l : List Opt} (known : Opt → Bool) (hv : ∀ j o, l[j]? = some o → verdict rules rejects (l.take j) o = if known o then .pass else .reject) (hn : (l.filter fun o => !known o) = [] → ∀ r ∈ rules, r.need = true → hasType l r.type = true) :
  judge rules l rejects = if (l.filter fun o => !known o) = [] then (2, l) else (4, l.filter fun o => !known o) := by
 unfold judge
 rw [yb4 known hv, List.take_length]
 by_cases h : (l.filter fun o => !known o) = []
 ·rw [if_pos h, if_neg (by simpa using h), ybe (hn h)]
  simp
 ·rw [if_neg h, if_pos (by simpa using h)]
theorem left_by {rules : List Rule} (known : Opt → Bool) {l : List Opt} (hs : ∀ o ∈ l, y6x rules o.1 = false) : left rules l (l.filter fun o => !known o) = l.filter known := by
 unfold left
 apply List.filter_congr
 intro o ho
 unfold stays
 rw [hs o ho, Bool.or_false]
 by_cases h : known o = true
 ·rw [h, Bool.not_eq_true', List.any_eq_false]
  intro p hp
  simp only [decide_eq_true_eq]
  rintro rfl
  have := (List.mem_filter.1 hp).2
  simp [h] at this
 ·have h : known o = false := by simpa using h
  rw [h, Bool.not_eq_false', List.any_eq_true]
  exact ⟨o, List.mem_filter.2 ⟨ho, by simp [h]⟩, by simp⟩
theorem y5z {rules : List Rule} {rejects : Bool} {l : List Opt} {known : Opt → Bool} (hl : Apart l) (hk : ∀ o ∈ l, (known o = true ∧ ∃ r, ruleOf rules o.1 = some r ∧ r.fits o.2) ∨ (known o = false ∧ ruleOf rules o.1 = none)) (j : Nat) (o : Opt) (hj : l[j]? = some o) :
  verdict rules rejects (l.take j) o = if known o then .pass else .reject := by
 unfold verdict
 rcases hk o (List.mem_of_getElem? hj) with ⟨h1, r, h2, h3⟩ | ⟨h1, h2⟩
 ·rw [h2]
  dsimp only
  rw [yex hl j o hj, if_neg (by decide), if_pos h3, if_pos h1]
 ·rw [h2, if_neg (by simp [h1])]
theorem side_of {rules orules : List Rule} {ask : List Opt} (known : Opt → Bool) (hl : Apart ask) (hf : Fine ask)
  (hk : ∀ o ∈ ask, (known o = true ∧ ∃ r, ruleOf orules o.1 = some r ∧ r.fits o.2) ∨ (known o = false ∧ ruleOf orules o.1 = none))
  (hn : ∀ r ∈ orules, r.need = true → ∃ o ∈ ask, o.1 = r.type ∧ known o = true) (hs : ∀ o ∈ ask, y6x rules o.1 = false) :
  Side rules orules ask (ask.filter fun o => !known o) (ask.filter known) (decide ((ask.filter fun o => !known o) ≠ [])) := by
 have hl2 : Apart (ask.filter known) := List.Pairwise.filter _ hl
 have hk2 : ∀ o ∈ ask.filter known, (known o = true ∧ ∃ r, ruleOf orules o.1 = some r ∧ r.fits o.2) ∨ (known o = false ∧ ruleOf orules o.1 = none) := fun o ho => hk o (List.mem_filter.1 ho).1
 have hno : ((ask.filter known).filter fun o => !known o) = [] := by
  rw [List.filter_eq_nil_iff]
  intro o ho
  simp [(List.mem_filter.1 ho).2]
 refine ⟨hf, y0w hf _, y0w hf _, ?_, ?_, fun _ => left_by known hs, fun h => ?_, fun o ho => (List.mem_filter.1 ho).1⟩
 ·rw [y7w known (fun j o hj => y5z hl hk j o hj) (fun _ r hr hr2 => by obtain ⟨o, ho, ht, _⟩ := hn r hr hr2; exact y27 ho ht)]
  by_cases h : (ask.filter fun o => !known o) = []
  ·rw [if_pos h, if_neg (by simp [h])]
  ·rw [if_neg h, if_pos (by simpa using h)]
 ·rw [y7w known (fun j o hj => y5z hl2 hk2 j o hj) (fun _ r hr hr2 => by obtain ⟨o, ho, ht, h3⟩ := hn r hr hr2; exact y27 (List.mem_filter.2 ⟨ho, h3⟩) ht), if_pos hno]
 ·have h : (ask.filter fun o => !known o) = [] := by simpa using h
  rw [List.filter_eq_self]
  intro o ho
  have := List.filter_eq_nil_iff.1 h o ho
  simpa using this
end Pure
namespace Pure
theorem rule_1 (b : Cfg) : ruleOf b.rules 1 = some (rangeOf 1) := by unfold Cfg.rules ruleOf; rfl
theorem rule_2 (b : Cfg) : ruleOf b.rules 2 = some (passOf 2 4) := by unfold Cfg.rules ruleOf; rfl
theorem y95 (b : Cfg) : ruleOf b.rules 3 = if b.server then none else some proofRule := by
 unfold Cfg.rules ruleOf
 cases b.server <;> cases b.pfc <;> cases b.acfc <;> (by_cases h : b.mrru = 0) <;> simp [h, rangeOf, passOf, proofRule]
theorem rule_7 (b : Cfg) : ruleOf b.rules 7 = if b.pfc then some (passOf 7 0) else none := by
 unfold Cfg.rules ruleOf
 cases b.server <;> cases b.pfc <;> cases b.acfc <;> (by_cases h : b.mrru = 0) <;> simp [h, rangeOf, passOf, proofRule]
theorem rule_8 (b : Cfg) : ruleOf b.rules 8 = if b.acfc then some (passOf 8 0) else none := by
 unfold Cfg.rules ruleOf
 cases b.server <;> cases b.pfc <;> cases b.acfc <;> (by_cases h : b.mrru = 0) <;> simp [h, rangeOf, passOf, proofRule]
theorem rule_17 (b : Cfg) : ruleOf b.rules 17 = if b.mrru = 0 then none else some (rangeOf 17) := by
 unfold Cfg.rules ruleOf
 cases b.server <;> cases b.pfc <;> cases b.acfc <;> (by_cases h : b.mrru = 0) <;> simp [h, rangeOf, passOf, proofRule]
theorem rule_18 (b : Cfg) : ruleOf b.rules 18 = if b.mrru = 0 then none else some (passOf 18 0) := by
 unfold Cfg.rules ruleOf
 cases b.server <;> cases b.pfc <;> cases b.acfc <;> (by_cases h : b.mrru = 0) <;> simp [h, rangeOf, passOf, proofRule]
theorem ybl (t : Int) {x : Nat} (h1 : 64 ≤ x) (h2 : x ≤ 1500) : (rangeOf t).fits (wide x 2) := by
 refine .inr (.inl ⟨rfl, ⟨by show (1 : Int) ≤ 2; decide, by show (2 : Int) ≤ 4; decide, by rw [wide_length]; rfl⟩, ?_, ?_⟩)
 ·show (64 : Int) ≤ ((bnum (wide x 2) : Nat) : Int)
  rw [y98 (by omega)]; omega
 ·show ((bnum (wide x 2) : Nat) : Int) ≤ 1500
  rw [y98 (by omega)]; omega
theorem y5q (t len : Int) {b : List UInt8} (h : (b.length : Int) = len) : (passOf t len).fits b := .inl ⟨rfl, .inr h⟩
theorem y8h (c : Cfg) (m : Nat) : Apart (c.ask m) := by
 have h : ((c.ask m).map Prod.fst).Pairwise (· ≠ ·) := List.Pairwise.sublist (ydc c m) (by decide)
 exact List.pairwise_map.1 h
def Cfg.knows (b : Cfg) (o : Opt) : Bool := (ruleOf b.rules o.1).isSome
theorem y8i {a : Cfg} (ha : a.fine = true) (b : Cfg) (m : Nat) : ∀ o ∈ a.ask m, (b.knows o = true ∧ ∃ r, ruleOf b.rules o.1 = some r ∧ r.fits o.2) ∨ (b.knows o = false ∧ ruleOf b.rules o.1 = none) := by
 obtain ⟨h1, h2, h3⟩ := fine_nums ha
 intro o ho
 have key : (∃ r, ruleOf b.rules o.1 = some r ∧ r.fits o.2) ∨ ruleOf b.rules o.1 = none := by
  rcases y3j ho with ⟨rfl, hc⟩ | ⟨rfl, _⟩ | ⟨rfl, _⟩ | ⟨rfl, _⟩ | ⟨rfl, _⟩ | ⟨rfl, _⟩ | ⟨rfl, hc⟩ | ⟨rfl, _⟩
  ·exact .inl ⟨_, rule_1 b, ybl 1 (by omega) (by omega)⟩
  ·exact .inl ⟨_, rule_2 b, y5q 2 4 (by rw [wide_length]; rfl)⟩
  ·rw [y95]
   cases b.server
   ·exact .inl ⟨_, rfl, .inr (.inr (.inl ⟨rfl, rfl⟩))⟩
   ·exact .inr rfl
  ·exact .inl ⟨_, y7h b, y5q 5 4 (by rw [wide_length]; rfl)⟩
  ·rw [rule_7]
   cases b.pfc
   ·exact .inr rfl
   ·exact .inl ⟨_, rfl, y5q 7 0 rfl⟩
  ·rw [rule_8]
   cases b.acfc
   ·exact .inr rfl
   ·exact .inl ⟨_, rfl, y5q 8 0 rfl⟩
  ·rw [rule_17]
   by_cases h : b.mrru = 0
   ·rw [if_pos h]; exact .inr rfl
   ·rw [if_neg h]; exact .inl ⟨_, rfl, ybl 17 (by omega) (by omega)⟩
  ·rw [rule_18]
   by_cases h : b.mrru = 0
   ·rw [if_pos h]; exact .inr rfl
   ·rw [if_neg h]; exact .inl ⟨_, rfl, y5q 18 0 rfl⟩
 unfold Cfg.knows
 rcases key with ⟨r, h, hf⟩ | h
 ·exact .inl ⟨by rw [h]; rfl, r, h, hf⟩
 ·exact .inr ⟨by rw [h]; rfl, h⟩
theorem y86 {b : Cfg} {r : Rule} (h : r ∈ b.rules) (hn : r.need = true) : r = proofRule ∧ b.server = false := by
 unfold Cfg.rules at h
 simp only [List.mem_append, List.mem_cons, List.not_mem_nil, or_false] at h
 rcases h with ((((h | h) | h) | h) | h) | h
 ·rcases h with rfl | rfl <;> cases hn
 ·split at h
  ·cases h
  ·rename_i hs; exact ⟨List.mem_singleton.1 h, by simpa using hs⟩
 ·subst h; cases hn
 ·split at h
  ·rw [List.mem_singleton.1 h] at hn; cases hn
  ·cases h
 ·split at h
  ·rw [List.mem_singleton.1 h] at hn; cases hn
  ·cases h
 ·split at h
  ·cases h
  ·simp only [List.mem_cons, List.not_mem_nil, or_false] at h
   rcases h with rfl | rfl <;> cases hn
theorem y4a {a b : Cfg} (ha : a.fine = true) (hs : a.server = !b.server) (m : Nat) :
  Side a.rules b.rules (a.ask m) ((a.ask m).filter fun o => !b.knows o) ((a.ask m).filter b.knows) (decide (((a.ask m).filter fun o => !b.knows o) ≠ [])) := by
 refine side_of b.knows (y8h a m) (ask_fine a m) (y8i ha b m) (fun r hr hn => ?_) (fun o ho => ?_)
 ·obtain ⟨rfl, hb⟩ := y86 hr hn
  have ha' : a.server = true := by rw [hs, hb]; rfl
  refine ⟨(3, proofData), ?_, rfl, ?_⟩
  ·unfold Cfg.ask
   simp [ha']
  ·unfold Cfg.knows
   show (ruleOf b.rules 3).isSome = true
   rw [y95, hb]
   rfl
 ·unfold y6x
  rcases y3j ho with ⟨rfl, _⟩ | ⟨rfl, _⟩ | ⟨rfl, hsv⟩ | ⟨rfl, _⟩ | ⟨rfl, _⟩ | ⟨rfl, _⟩ | ⟨rfl, _⟩ | ⟨rfl, _⟩
  ·rw [rule_1]; rfl
  ·rw [rule_2]; rfl
  ·rw [y95, hsv]; rfl
  ·rw [y7h]; rfl
  ·rw [rule_7]; cases a.pfc <;> rfl
  ·rw [rule_8]; cases a.acfc <;> rfl
  ·rw [rule_17]; by_cases h : a.mrru = 0
   ·rw [if_pos h]
   ·rw [if_neg h]; rfl
  ·rw [rule_18]; by_cases h : a.mrru = 0
   ·rw [if_pos h]
   ·rw [if_neg h]; rfl
end Pure
section
variable {w w' : World} {S F G : Nat → Prop} {e : TypeId} {size n : Nat} {v : Value} {xs : List Value}
theorem y6l (A : Option Addr) (c lo m size : Nat) : ∃ A' c', cutS A c lo m size = .slice A' m c' := by
 unfold cutS
 split
 ·exact ⟨_, _, rfl⟩
 ·exact ⟨_, _, rfl⟩
end
section
variable {P : Program} {w : World}
variable {ops : Array Oper} {rest : List Oper} {o : Oper} {a : Act} {Q : Exit → Act → World → Prop}
end
structure LDuo (w0 w : World) (c : Nat → Nat) (Rm Ro Fm Fo : Nat → Prop) (g mb i : Nat) (Vm Vo : Value) (lm lo : List Pure.Pkt) (gx gy : LF) (Mm Mo : Pure.Lcp) : Prop where
 i1 : i ≤ 1
 env : Env14 w0
 bel : Below w0.heap.size w0 w
 me : LAt w gx Rm Mm
 ot : LAt w gy Ro Mo
 q : ∃ cur : Array Value, Blk w g 57 cur ∧ cur.size = 2 ∧ cur[i]? = some Vm ∧ cur[1 - i]? = some Vo
 m : ∃ cur : Array Value, Blk w mb 49 cur ∧ cur.size = 2 ∧ cur[i]? = some (.pointer (some ⟨gx.l, 0, none⟩)) ∧ cur[1 - i]? = some (.pointer (some ⟨gy.l, 0, none⟩))
 wm : ∃ ps, ps.map Prod.snd = lm ∧ LQWin w Fm c Vm ps
 wo : ∃ ps, ps.map Prod.snd = lo ∧ LQWin w Fo c Vo ps
 cgx : c gx.g = 1
 cmx : c gx.gm = 1
 cgy : c gy.g = 2
 cmy : c gy.gm = 2
 cfm : ∀ b, Fm b → c b = 3 ∧ b < w.heap.size
 cfo : ∀ b, Fo b → c b = 4 ∧ b < w.heap.size
 cg : c g = 5
 cmb : c mb = 6
 crm : ∀ b, LR gx Rm b → c b = 0
 cro : ∀ b, LR gy Ro b → c b = 0
 new : ∀ b, b < w.heap.size → c b ≠ 0 → w0.heap.size ≤ b
def y0g (w0 w : World) (g mb i : Nat) (Vm Vo : Value) (lm lo : List Pure.Pkt) (gx gy : LF) (Mm Mo : Pure.Lcp) : Prop :=
 ∃ c Rm Ro Fm Fo, LDuo w0 w c Rm Ro Fm Fo g mb i Vm Vo lm lo gx gy Mm Mo
def y5u (w0 w : World) (g mb i : Nat) (Vm Vo : Value) (lm lo : List Pure.Pkt) (gx gy : LF) (Mm Mo : Pure.Lcp) (sv : Value) (l : List Pure.Pkt) : Prop :=
 ∃ c Rm Ro Fm Fo, LDuo w0 w c Rm Ro Fm Fo g mb i Vm Vo lm lo gx gy Mm Mo ∧ ∃ ps : List (Value × Pure.Pkt), ps.map Prod.snd = l ∧ ps.length ≤ 100 ∧ PRow w (fun b => c b = 0 ∧ b < w.heap.size) sv ps
section
variable {w0 w w' : World} {g mb i : Nat} {gx gy : LF} {Vm Vo : Value} {lm lo : List Pure.Pkt} {Mm Mo : Pure.Lcp}
theorem LDuo.swap {c : Nat → Nat} {Rm Ro Fm Fo : Nat → Prop} (h : LDuo w0 w c Rm Ro Fm Fo g mb i Vm Vo lm lo gx gy Mm Mo) :
  LDuo w0 w (fun b => if c b = 1 then 2 else if c b = 2 then 1 else if c b = 3 then 4 else if c b = 4 then 3 else c b) Ro Rm Fo Fm g mb (1 - i) Vo Vm lo lm gy gx Mo Mm := by
 have hi := h.i1
 have e : 1 - (1 - i) = i := by omega
 have hq : ∀ (F : Nat → Prop) v ps, LQWin w F c v ps → LQWin w F (fun b => if c b = 1 then 2 else if c b = 2 then 1 else if c b = 3 then 4 else if c b = 4 then 3 else c b) v ps := fun F v ps hq => hq.keeps (Keeps.refl y01 w) (fun _ _ h => h) (fun b hb _ => ⟨fun h => h, by simp [hb]⟩)
 refine ⟨by omega, h.env, h.bel, h.ot, h.me, ?_, ?_, ?_, ?_, ?_, ?_, ?_, ?_, ?_, ?_, ?_, ?_, ?_, ?_, ?_⟩
 ·obtain ⟨cur, a, b, d, f⟩ := h.q
  exact ⟨cur, a, b, f, by rw [e]; exact d⟩
 ·obtain ⟨cur, a, b, d, f⟩ := h.m
  exact ⟨cur, a, b, f, by rw [e]; exact d⟩
 ·obtain ⟨ps, h1, h2⟩ := h.wo; exact ⟨ps, h1, hq _ _ _ h2⟩
 ·obtain ⟨ps, h1, h2⟩ := h.wm; exact ⟨ps, h1, hq _ _ _ h2⟩
 ·have := h.cgy; simp [this]
 ·have := h.cmy; simp [this]
 ·have := h.cgx; simp [this]
 ·have := h.cmx; simp [this]
 ·intro b hb; have := h.cfo b hb; exact ⟨by simp [this.1], this.2⟩
 ·intro b hb; have := h.cfm b hb; exact ⟨by simp [this.1], this.2⟩
 ·have := h.cg; simp [this]
 ·have := h.cmb; simp [this]
 ·intro b hb; have := h.cro b hb; simp [this]
 ·intro b hb; have := h.crm b hb; simp [this]
 ·intro b hb hc
  refine h.new b hb (fun h0 => hc ?_)
  simp [h0]
theorem y0g.swap (h : y0g w0 w g mb i Vm Vo lm lo gx gy Mm Mo) : y0g w0 w g mb (1 - i) Vo Vm lo lm gy gx Mo Mm := by
 obtain ⟨c, Rm, Ro, Fm, Fo, h⟩ := h
 exact ⟨_, _, _, _, _, h.swap⟩
theorem LDuo.same {c : Nat → Nat} {Rm Ro Fm Fo S : Nat → Prop} (h : LDuo w0 w c Rm Ro Fm Fo g mb i Vm Vo lm lo gx gy Mm Mo) (k : Keeps S w w') (h1 : ∀ b, S b → b < w.heap.size → c b ≠ 0 ∧ c b ≠ 1 ∧ c b ≠ 2 ∧ c b ≠ 3 ∧ c b ≠ 6) :
  Below w0.heap.size w0 w' ∧ LAt w' gx Rm Mm ∧ LAt w' gy Ro Mo ∧ (∃ ps, ps.map Prod.snd = lm ∧ LQWin w' Fm c Vm ps) ∧
   ∃ cur : Array Value, Blk w' mb 49 cur ∧ cur.size = 2 ∧ cur[i]? = some (.pointer (some ⟨gx.l, 0, none⟩)) ∧ cur[1 - i]? = some (.pointer (some ⟨gy.l, 0, none⟩)) := by
 have hml := h.me.lt
 have hol := h.ot.lt
 refine ⟨⟨k.os.trans h.bel.os, k.tape.trans h.bel.tape, k.output.trans h.bel.output, Nat.le_trans h.bel.size k.size, fun b hb => (k.block b (Nat.lt_of_lt_of_le hb h.bel.size) (fun hs => ?_)).trans (h.bel.block b hb)⟩, h.me.keeps k (fun e => (h1 _ e hml.1).2.1 h.cgx) (fun e => (h1 _ e hml.2.1).2.1 h.cmx) (fun b hb e => (h1 b e (hml.2.2 b hb)).1 (h.crm b hb)), h.ot.keeps k (fun e => (h1 _ e hol.1).2.2.1 h.cgy) (fun e => (h1 _ e hol.2.1).2.2.1 h.cmy) (fun b hb e => (h1 b e (hol.2.2 b hb)).1 (h.cro b hb)), ?_, ?_⟩
 ·have h2 := h1 b hs (Nat.lt_of_lt_of_le hb h.bel.size)
  have := h.new b (Nat.lt_of_lt_of_le hb h.bel.size) h2.1
  omega
 ·obtain ⟨ps, e1, e2⟩ := h.wm
  exact ⟨ps, e1, e2.keeps k (fun b hb e => (h1 b e (h.cfm b hb).2).2.2.2.1 (h.cfm b hb).1) (fun b hb hl => ⟨fun e => (h1 b e hl).1 hb, hb⟩)⟩
 ·obtain ⟨cur, a, r⟩ := h.m
  exact ⟨cur, a.keeps k (fun e => (h1 mb e a.lt).2.2.2.2 h.cmb), r⟩
theorem LDuo.quiet {c : Nat → Nat} {Rm Ro Fm Fo : Nat → Prop} (h : LDuo w0 w c Rm Ro Fm Fo g mb i Vm Vo lm lo gx gy Mm Mo) (k : Keeps y01 w w') : LDuo w0 w' c Rm Ro Fm Fo g mb i Vm Vo lm lo gx gy Mm Mo := by
 obtain ⟨b1, b2, b3, b4, b5⟩ := h.same k (fun _ hs => hs.elim)
 refine ⟨h.i1, h.env, b1, b2, b3, ?_, b5, b4, ?_, h.cgx, h.cmx, h.cgy, h.cmy, fun b hb => ⟨(h.cfm b hb).1, Nat.lt_of_lt_of_le (h.cfm b hb).2 k.size⟩, fun b hb => ⟨(h.cfo b hb).1, Nat.lt_of_lt_of_le (h.cfo b hb).2 k.size⟩, h.cg, h.cmb, h.crm, h.cro, fun b hb hc => ?_⟩
 ·obtain ⟨cur, a, r⟩ := h.q
  exact ⟨cur, a.keeps k (fun h => h), r⟩
 ·obtain ⟨ps, e1, e2⟩ := h.wo
  exact ⟨ps, e1, e2.keeps k (fun _ _ h => h) (fun b hb _ => ⟨fun h => h, hb⟩)⟩
 ·rcases Nat.lt_or_ge b w.heap.size with hl | hl
  ·exact h.new b hl hc
  ·exact Nat.le_trans h.bel.size hl
theorem y0g.quiet (h : y0g w0 w g mb i Vm Vo lm lo gx gy Mm Mo) (k : Keeps y01 w w') : y0g w0 w' g mb i Vm Vo lm lo gx gy Mm Mo := by
 obtain ⟨c, Rm, Ro, Fm, Fo, h⟩ := h
 exact ⟨_, _, _, _, _, h.quiet k⟩
theorem y0g.mine (h : y0g w0 w g mb i Vm Vo lm lo gx gy Mm Mo) : w.cell? ⟨g, i, none⟩ = some Vm := by
 obtain ⟨c, Rm, Ro, Fm, Fo, h⟩ := h
 obtain ⟨cur, a, b, d, f⟩ := h.q
 rw [a.cell]; exact d
theorem y0g.other (h : y0g w0 w g mb i Vm Vo lm lo gx gy Mm Mo) : w.cell? ⟨g, 1 - i, none⟩ = some Vo := h.swap.mine
theorem y0g.neg (h : y0g w0 w g mb i Vm Vo lm lo gx gy Mm Mo) : w.cell? ⟨mb, i, none⟩ = some (.pointer (some ⟨gx.l, 0, none⟩)) := by
 obtain ⟨c, Rm, Ro, Fm, Fo, h⟩ := h
 obtain ⟨cur, a, b, d, f⟩ := h.m
 rw [a.cell]; exact d
theorem y0g.free (h : y0g w0 w g mb i Vm Vo lm lo gx gy Mm Mo) (j : Nat) : w.frozen? ⟨g, j, none⟩ = false := by
 obtain ⟨c, Rm, Ro, Fm, Fo, h⟩ := h
 obtain ⟨cur, a, _⟩ := h.q
 exact a.frozen j
theorem y0g.form (h : y0g w0 w g mb i Vm Vo lm lo gx gy Mm Mo) : ∃ A c, Vm = .slice A lm.length c := by
 obtain ⟨c, Rm, Ro, Fm, Fo, h⟩ := h
 obtain ⟨ps, e1, e2⟩ := h.wm
 obtain ⟨A, c, e, _⟩ := e2.win.form
 have hl : ps.length = lm.length := by rw [← e1, List.length_map]
 exact ⟨A, c, by rw [← hl]; exact e⟩
theorem y0g.below (h : y0g w0 w g mb i Vm Vo lm lo gx gy Mm Mo) : Below w0.heap.size w0 w := by
 obtain ⟨c, Rm, Ro, Fm, Fo, h⟩ := h
 exact h.bel
theorem y0g.at (h : y0g w0 w g mb i Vm Vo lm lo gx gy Mm Mo) : ∃ R f, LObj w gx R f Mm := by
 obtain ⟨c, Rm, Ro, Fm, Fo, h⟩ := h
 obtain ⟨f, h1⟩ := h.me
 exact ⟨_, f, h1⟩
theorem y0g.env (h : y0g w0 w g mb i Vm Vo lm lo gx gy Mm Mo) : Env14 w0 := by
 obtain ⟨c, Rm, Ro, Fm, Fo, h⟩ := h
 exact h.env
theorem LDuo.turned {c : Nat → Nat} {Rm Ro Fm Fo : Nat → Prop} {n' : Pure.Lcp} {o : Pure.LSaid} {v : Value} (h : LDuo w0 w c Rm Ro Fm Fo g mb i Vm Vo lm lo gx gy Mm Mo) (ho : y3g w w' v o) (hb : y1k w w' gx Rm n') :
  ∃ sv, v = .agg #[sv, .bool o.said.up, .bool o.said.down, .bool o.said.start, .bool o.said.done, .int .i64 (o.reject : Int)] ∧ y5u w0 w' g mb i Vm Vo lm lo gx gy n' Mo sv o.said.send := by
 obtain ⟨f', R', hn, hsub, k⟩ := hb
 obtain ⟨sv, ps, rfl, hp, he, hfew⟩ := ho
 have hml := h.me.lt
 have hol := h.ot.lt
 have hgl : g < w.heap.size := by obtain ⟨cur, a, _⟩ := h.q; exact a.lt
 have hbl : mb < w.heap.size := by obtain ⟨cur, a, _⟩ := h.m; exact a.lt
 have hS : ∀ b, c b ≠ 1 → ¬ (b = gx.g ∨ b = gx.gm) := fun b hb e => by
  rcases e with rfl | rfl
  ·exact hb h.cgx
  ·exact hb h.cmx
 have hc : ∀ b, b < w.heap.size → (if w.heap.size ≤ b then 0 else c b) = c b := fun b hb => if_neg (by omega)
 have bel' : Below w0.heap.size w0 w' := ⟨k.os.trans h.bel.os, k.tape.trans h.bel.tape, k.output.trans h.bel.output, Nat.le_trans h.bel.size k.size, fun b hb => (k.block b (Nat.lt_of_lt_of_le hb h.bel.size) (fun e => by
  rcases e with e | e
  ·have := h.new b (Nat.lt_of_lt_of_le hb h.bel.size) (by rw [e, h.cgx]; decide); omega
  ·have := h.new b (Nat.lt_of_lt_of_le hb h.bel.size) (by rw [e, h.cmx]; decide); omega)).trans (h.bel.block b hb)⟩
 refine ⟨sv, rfl, fun b => if w.heap.size ≤ b then 0 else c b, R', Ro, Fm, Fo, ⟨h.i1, h.env, bel', ⟨f', hn⟩, h.ot.keeps k (hS _ (by rw [h.cgy]; decide)) (hS _ (by rw [h.cmy]; decide)) (fun b hb => hS b (by rw [h.cro b hb]; decide)), ?_, ?_, ?_, ?_, ?_, ?_, ?_, ?_, ?_, ?_, ?_, ?_, ?_, ?_, ?_⟩, ps, he, hfew, hp.mono (fun b hb => ⟨if_pos hb.1, hb.2⟩)⟩
 ·obtain ⟨cur, a, r⟩ := h.q
  exact ⟨cur, a.keeps k (hS g (by rw [h.cg]; decide)), r⟩
 ·obtain ⟨cur, a, r⟩ := h.m
  exact ⟨cur, a.keeps k (hS mb (by rw [h.cmb]; decide)), r⟩
 ·obtain ⟨qs, e1, e2⟩ := h.wm
  exact ⟨qs, e1, e2.keeps k (fun b hb => hS b (by rw [(h.cfm b hb).1]; decide)) (fun b hb hl => ⟨hS b (by rw [hb]; decide), by (try dsimp only); rw [hc b hl]; exact hb⟩)⟩
 ·obtain ⟨qs, e1, e2⟩ := h.wo
  exact ⟨qs, e1, e2.keeps k (fun b hb => hS b (by rw [(h.cfo b hb).1]; decide)) (fun b hb hl => ⟨hS b (by rw [hb]; decide), by (try dsimp only); rw [hc b hl]; exact hb⟩)⟩
 ·(try dsimp only); rw [hc _ hml.1]; exact h.cgx
 ·(try dsimp only); rw [hc _ hml.2.1]; exact h.cmx
 ·(try dsimp only); rw [hc _ hol.1]; exact h.cgy
 ·(try dsimp only); rw [hc _ hol.2.1]; exact h.cmy
 ·intro b hb; (try dsimp only); rw [hc b (h.cfm b hb).2]; exact ⟨(h.cfm b hb).1, Nat.lt_of_lt_of_le (h.cfm b hb).2 k.size⟩
 ·intro b hb; (try dsimp only); rw [hc b (h.cfo b hb).2]; exact ⟨(h.cfo b hb).1, Nat.lt_of_lt_of_le (h.cfo b hb).2 k.size⟩
 ·(try dsimp only); rw [hc _ hgl]; exact h.cg
 ·(try dsimp only); rw [hc _ hbl]; exact h.cmb
 ·intro b hb
  try dsimp only
  rcases Nat.lt_or_ge b w.heap.size with hl | hl
  ·rw [hc b hl]
   rcases hb with rfl | hb
   ·exact h.crm _ (.inl rfl)
   ·rcases hsub b hb with h1 | h1
    ·exact h.crm b (.inr h1)
    ·omega
  ·exact if_pos hl
 ·intro b hb; (try dsimp only); rw [hc b (hol.2.2 b hb)]; exact h.cro b hb
 ·intro b hb hcb
  rcases Nat.lt_or_ge b w.heap.size with hl | hl
  ·try dsimp only at hcb
   rw [hc b hl] at hcb
   exact h.new b hl hcb
  ·exact Nat.le_trans h.bel.size hl
theorem y0g.acts (h : y0g w0 w g mb i Vm Vo lm lo gx gy Mm Mo) (e : Int) (he : e = 0 ∨ e = 1 ∨ e = 2 ∨ e = 3) (hnk : Mm.n.naks ≤ 1000) {n' : Pure.Lcp} {o : Pure.LSaid} (hE : Mm.act e = (n', o)) :
  Calls Tryz.prog 28 #[.pointer (some ⟨gx.l, 0, none⟩), .int .i64 e] w fun r w' => ∃ sv, r = .returned (.agg #[sv, .bool (o).said.up, .bool (o).said.down, .bool (o).said.start, .bool (o).said.done, .int .i64 ((o).reject : Int)]) ∧ y5u w0 w' g mb i Vm Vo lm lo gx gy n' Mo sv (o).said.send := by
 obtain ⟨c, Rm, Ro, Fm, Fo, h⟩ := h
 obtain ⟨f, hn⟩ := h.me
 have hcall := y56 hn e he hnk
 rw [hE] at hcall
 refine hcall.mono ?_
 rintro r w' ⟨v, rfl, ho, hb⟩
 obtain ⟨sv, rfl, hp⟩ := h.turned ho hb
 exact ⟨sv, rfl, hp⟩
def LHand (w : World) (g : Nat) (gx : LF) (d : Value) (p : Pure.Pkt) : Prop := Row w (fun b => b < w.heap.size ∧ b ≠ g ∧ b ≠ gx.g ∧ b ≠ gx.gm) 1 d p.data.length (u8s p.data)
theorem y0g.hears (h : y0g w0 w g mb i Vm Vo lm lo gx gy Mm Mo) (d : Value) (p : Pure.Pkt) (hd : LHand w g gx d p) (hnk : Mm.n.naks ≤ 1000) (hdr : Mm.n.dropped ≤ 1000000) (hL : p.data.length ≤ 1000000) {n' : Pure.Lcp} {o : Pure.LSaid} (hE : Mm.input p = (n', o)) :
  Calls Tryz.prog 30 #[.pointer (some ⟨gx.l, 0, none⟩), pktV p d] w fun r w' => ∃ sv, r = .returned (.agg #[sv, .bool (o).said.up, .bool (o).said.down, .bool (o).said.start, .bool (o).said.done, .int .i64 ((o).reject : Int)]) ∧ y5u w0 w' g mb i Vm Vo lm lo gx gy n' Mo sv (o).said.send := by
 obtain ⟨c, Rm, Ro, Fm, Fo, h⟩ := h
 obtain ⟨f, hn⟩ := h.me
 have henv : Env14 w := h.env.below h.bel
 obtain ⟨a, ha⟩ := henv.sent
 have hcall := y4q hn _ p d a henv.env.hd ha (fun b hb => ⟨hb.1, hb.2.2.1, hb.2.2.2⟩) hd hnk hdr hL
 rw [hE] at hcall
 refine hcall.mono ?_
 rintro r w' ⟨v, rfl, ho, hb⟩
 obtain ⟨sv, rfl, hp⟩ := h.turned ho hb
 exact ⟨sv, rfl, hp⟩
theorem y5u.form {sv : Value} {l : List Pure.Pkt} (h : y5u w0 w g mb i Vm Vo lm lo gx gy Mm Mo sv l) : ∃ A c, sv = .slice A l.length c := by
 obtain ⟨_, _, _, _, _, _, ps, e1, _, hp⟩ := h
 obtain ⟨A, c, e, _⟩ := hp.form
 have hl : ps.length = l.length := by rw [← e1, List.length_map]
 exact ⟨A, c, by rw [← hl]; exact e⟩
theorem y5u.pair {sv : Value} {l : List Pure.Pkt} (h : y5u w0 w g mb i Vm Vo lm lo gx gy Mm Mo sv l) : y0g w0 w g mb i Vm Vo lm lo gx gy Mm Mo := by
 obtain ⟨c, Rm, Ro, Fm, Fo, h, _⟩ := h
 exact ⟨c, Rm, Ro, Fm, Fo, h⟩
theorem y0g.head {p : Pure.Pkt} {t : List Pure.Pkt} (h : y0g w0 w g mb i Vm Vo (p :: t) lo gx gy Mm Mo) : ∃ bb oo cc d, Vm = .slice (some ⟨bb, oo, none⟩) (t.length + 1) cc ∧ t.length + 1 ≤ cc ∧ (∀ j u, (y2s (d, p))[j]? = some u → w.cell? ⟨bb, oo + j, none⟩ = some u) ∧ LHand w g gx d p ∧
  y0g w0 (w.setCell ⟨g, i, none⟩ (cutS (some ⟨bb, oo, none⟩) cc 1 t.length 3)) g mb i (cutS (some ⟨bb, oo, none⟩) cc 1 t.length 3) Vo t lo gx gy Mm Mo := by
 obtain ⟨c, Rm, Ro, Fm, Fo, h⟩ := h
 obtain ⟨ps, e1, e2⟩ := h.wm
 obtain ⟨⟨d, p'⟩, ps, rfl⟩ : ∃ q r, ps = q :: r := by
  cases ps with
  | nil => simp at e1
  | cons q r => exact ⟨q, r, rfl⟩
 rw [List.map_cons] at e1
 injection e1 with e1 e3
 have e1 : p' = p := e1
 subst e1
 have hl : ps.length = t.length := by rw [← e3, List.length_map]
 obtain ⟨hx, A, cap, rfl, hc1, hc2, hc3⟩ := e2.win
 rw [List.length_cons] at hc1 hx
 rcases hc3 with hc3 | ⟨bb, oo, cur, rfl, hFb, hB, hs, hcell⟩
 ·omega
 have hw : y14 w Fm 56 3 (.slice (some ⟨bb, oo, none⟩) (ps.length + 1) cap) (ps.length + 1) (y0l ((d, p') :: ps)) := e2.win
 have K : Keeps (only g) w (w.setCell ⟨g, i, none⟩ (cutS (some ⟨bb, oo, none⟩) cap 1 t.length 3)) := (Keeps.refl (only g) w).store g i (fun _ => rfl) _
 have cg := h.cg
 have hno : ∀ b, c b ≠ 5 → ¬ only g b := fun b hb e => hb (by have e : b = g := e; rw [e]; exact cg)
 have hi := h.i1
 obtain ⟨b1, b2, b3, _, b5⟩ := h.same K (fun b e _ => by have e : b = g := e; rw [e, cg]; decide)
 refine ⟨bb, oo, cap, d, by rw [List.length_cons, hl], by omega, fun j u hu => ?_, ?_, c, Rm, Ro, Fm, Fo, ⟨h.i1, h.env, b1, b2, b3, ?_, b5, ⟨ps, e3, ⟨?_, ?_⟩⟩, ?_, h.cgx, h.cmx, h.cgy, h.cmy, fun b hb => ⟨(h.cfm b hb).1, Nat.lt_of_lt_of_le (h.cfm b hb).2 K.size⟩, fun b hb => ⟨(h.cfo b hb).1, Nat.lt_of_lt_of_le (h.cfo b hb).2 K.size⟩, h.cg, h.cmb, h.crm, h.cro, fun b hb hcb => h.new b (by simpa [World.setCell] using hb) hcb⟩⟩
 ·rw [hB.cell]
  refine hcell j u ?_
  have hj : j < 3 := (List.getElem?_eq_some_iff.1 hu).1
  have := y6f ((d, p') :: ps) 0 j (d, p') rfl hj
  rw [Nat.zero_mul, Nat.zero_add] at this
  rw [this]; exact hu
 ·refine (e2.rows (d, p') List.mem_cons_self).mono (fun b hb => ⟨hb.2, ?_, ?_, ?_⟩)
  ·rintro rfl; rw [cg] at hb; exact absurd hb.1 (by decide)
  ·rintro rfl; rw [h.cgx] at hb; exact absurd hb.1 (by decide)
  ·rintro rfl; rw [h.cmx] at hb; exact absurd hb.1 (by decide)
 ·obtain ⟨qc, a, b, dd, f⟩ := h.q
  refine ⟨_, Blk.set a i _, by rw [Array.size_setIfInBounds]; exact b, by rw [Array.getElem?_setIfInBounds_self_of_lt (by omega)], ?_⟩
  rw [Array.getElem?_setIfInBounds_ne (by omega)]; exact f
 ·have ht := hw.tail
  have hd : (y0l ((d, p') :: ps)).drop 3 = y0l ps := by simp [y0l, List.flatMap_cons]
  rw [hd] at ht
  rw [← hl]
  exact ht.keeps (by rw [← hl] at K; exact K) (fun b hb => hno b (by rw [(h.cfm b hb).1]; decide))
 ·intro q hq
  exact ((e2.rows q (List.mem_cons_of_mem _ hq)).keeps K (fun b hb => hno b (by rw [hb.1]; decide))).mono (fun b hb => ⟨hb.1, Nat.lt_of_lt_of_le hb.2 K.size⟩)
 ·obtain ⟨qs, f1, f2⟩ := h.wo
  exact ⟨qs, f1, f2.keeps K (fun b hb => hno b (by rw [(h.cfo b hb).1]; decide)) (fun b hb _ => ⟨hno b (by rw [hb]; decide), hb⟩)⟩
theorem y5u.put {sv : Value} {l : List Pure.Pkt} (h : y5u w0 w g mb i Vm Vo lm lo gx gy Mm Mo sv l) (hlo : lo.length ≤ 1000) : ∃ Fo G xs ys, y14 w Fo 56 3 Vo lo.length xs ∧ Row w G 3 sv l.length ys ∧ (∀ u ∈ ys, u.oneCell' = true) ∧ lo.length + l.length ≤ 100000 ∧
  ∀ v' w', y14 w' (fun b => Fo b ∨ w.heap.size ≤ b) 56 3 v' (lo.length + l.length) (xs ++ ys) → Keeps Fo w w' →
   w'.cell? ⟨g, 1 - i, none⟩ = some Vo ∧ w'.frozen? ⟨g, 1 - i, none⟩ = false ∧ w'.cell? ⟨mb, i, none⟩ = some (.pointer (some ⟨gx.l, 0, none⟩)) ∧ y0g w0 (w'.setCell ⟨g, 1 - i, none⟩ v') g mb i Vm v' lm (lo ++ l) gx gy Mm Mo := by
 obtain ⟨c, Rm, Ro, Fm, Fo, h, ps, hps, hfew, hrow⟩ := h
 obtain ⟨qs, hqs, hq⟩ := h.wo
 have hl1 : qs.length = lo.length := by rw [← hqs, List.length_map]
 have hl2 : ps.length = l.length := by rw [← hps, List.length_map]
 refine ⟨Fo, _, y0l qs, y0l ps, by rw [← hl1]; exact hq.win, by rw [← hl2]; exact hrow.out, ?_, by omega, fun v' w' hwin k => ?_⟩
 ·intro u hu
  obtain ⟨p, hp, hu⟩ := List.mem_flatMap.1 hu
  obtain ⟨A, cc, e, _⟩ := (hrow.rows p hp).form
  simp only [y2s, List.mem_cons, List.not_mem_nil, or_false] at hu
  rcases hu with rfl | rfl | rfl
  ·rfl
  ·rfl
  ·rw [e]; rfl
 have hi := h.i1
 have hgl : g < w.heap.size := by obtain ⟨cur, a, _⟩ := h.q; exact a.lt
 have hbl : mb < w.heap.size := by obtain ⟨cur, a, _⟩ := h.m; exact a.lt
 have hml := h.me.lt
 have hol := h.ot.lt
 have hn4 : ∀ b, c b ≠ 4 → ¬ Fo b := fun b hb e => hb (h.cfo b e).1
 obtain ⟨a1, a2, a3, a4, a5⟩ := h.same k (fun b e _ => by rw [(h.cfo b e).1]; decide)
 obtain ⟨qc, qa, qb, qd, qf⟩ := h.q
 have qa1 := qa.keeps k (hn4 g (by rw [h.cg]; decide))
 obtain ⟨mc, ma, mr⟩ := a5
 refine ⟨by rw [qa1.cell]; exact qf, qa1.frozen _, by rw [ma.cell]; exact mr.2.1, ?_⟩
 have K2 : Keeps (only g) w' (w'.setCell ⟨g, 1 - i, none⟩ v') := (Keeps.refl (only g) w').store g (1 - i) (fun _ => rfl) _
 have hsz : (w'.setCell ⟨g, 1 - i, none⟩ v').heap.size = w'.heap.size := by simp [World.setCell]
 have hne : ∀ b, b < w.heap.size → c b ≠ 5 → ¬ only g b := fun b _ hb e => hb (by have e : b = g := e; rw [e]; exact h.cg)
 have hc : ∀ b, b < w.heap.size → (if w.heap.size ≤ b then 4 else c b) = c b := fun b hb => if_neg (by omega)
 have bel2 : Below w0.heap.size w0 (w'.setCell ⟨g, 1 - i, none⟩ v') := ⟨K2.os.trans a1.os, K2.tape.trans a1.tape, K2.output.trans a1.output, Nat.le_trans a1.size K2.size, fun b hb => (K2.block b (Nat.lt_of_lt_of_le hb a1.size) (fun e => by
  have e : b = g := e
  have := h.new g hgl (by rw [h.cg]; decide)
  omega)).trans (a1.block b hb)⟩
 refine ⟨fun b => if w.heap.size ≤ b then 4 else c b, Rm, Ro, Fm, fun b => (Fo b ∨ w.heap.size ≤ b) ∧ b < w'.heap.size, h.i1, h.env, bel2, a2.keeps K2 (hne _ hml.1 (by rw [h.cgx]; decide)) (hne _ hml.2.1 (by rw [h.cmx]; decide)) (fun b hb => hne b (hml.2.2 b hb) (by rw [h.crm b hb]; decide)), a3.keeps K2 (hne _ hol.1 (by rw [h.cgy]; decide)) (hne _ hol.2.1 (by rw [h.cmy]; decide)) (fun b hb => hne b (hol.2.2 b hb) (by rw [h.cro b hb]; decide)), ?_, ?_, ?_, ?_, ?_, ?_, ?_, ?_, ?_, ?_, ?_, ?_, ?_, ?_, ?_⟩
 ·refine ⟨_, Blk.set qa1 (1 - i) _, by rw [Array.size_setIfInBounds]; exact qb, ?_, by rw [Array.getElem?_setIfInBounds_self_of_lt (by omega)]⟩
  rw [Array.getElem?_setIfInBounds_ne (by omega)]; exact qd
 ·exact ⟨mc, ma.keeps K2 (hne mb hbl (by rw [h.cmb]; decide)), mr⟩
 ·obtain ⟨rs, f1, f2⟩ := h.wm
  have f3 := f2.keeps (c' := c) k (fun b hb => hn4 b (by rw [(h.cfm b hb).1]; decide)) (fun b hb _ => ⟨hn4 b (by rw [hb]; decide), hb⟩)
  refine ⟨rs, f1, ⟨f3.win.keeps K2 (fun b hb => hne b (h.cfm b hb).2 (by rw [(h.cfm b hb).1]; decide)), fun p hp => ?_⟩⟩
  refine (((f2.rows p hp).keeps k (fun b hb => hn4 b (by rw [hb.1]; decide))).keeps K2 (fun b hb => hne b hb.2 (by rw [hb.1]; decide))).mono (fun b hb => ⟨by (try dsimp only); rw [hc b hb.2]; exact hb.1, by rw [hsz]; exact Nat.lt_of_lt_of_le hb.2 k.size⟩)
 ·refine ⟨qs ++ ps, by rw [List.map_append, hqs, hps], ⟨?_, fun p hp => ?_⟩⟩
  ·have e : y0l (qs ++ ps) = y0l qs ++ y0l ps := by simp [y0l, List.flatMap_append]
   rw [e, List.length_append, hl1, hl2]
   refine (hwin.mono (G := fun b => (Fo b ∨ w.heap.size ≤ b) ∧ b < w'.heap.size) (fun b hb hl => ⟨hb, hl⟩)).keeps K2 (fun b hb => ?_)
   rcases hb.1 with hb | hb
   ·exact hne b (h.cfo b hb).2 (by rw [(h.cfo b hb).1]; decide)
   ·intro e
    have e : b = g := e
    omega
  ·have hr : Row w (fun b => c b = 0 ∧ b < w.heap.size) 1 p.1 p.2.data.length (u8s p.2.data) := by
    rcases List.mem_append.1 hp with hp | hp
    ·exact hq.rows p hp
    ·exact hrow.rows p hp
   exact ((hr.keeps k (fun b hb => hn4 b (by rw [hb.1]; decide))).keeps K2 (fun b hb => hne b hb.2 (by rw [hb.1]; decide))).mono (fun b hb => ⟨by (try dsimp only); rw [hc b hb.2]; exact hb.1, by rw [hsz]; exact Nat.lt_of_lt_of_le hb.2 k.size⟩)
 ·(try dsimp only); rw [hc _ hml.1]; exact h.cgx
 ·(try dsimp only); rw [hc _ hml.2.1]; exact h.cmx
 ·(try dsimp only); rw [hc _ hol.1]; exact h.cgy
 ·(try dsimp only); rw [hc _ hol.2.1]; exact h.cmy
 ·intro b hb; (try dsimp only); rw [hc b (h.cfm b hb).2, hsz]; exact ⟨(h.cfm b hb).1, Nat.lt_of_lt_of_le (h.cfm b hb).2 k.size⟩
 ·rintro b ⟨hb, hl⟩
  refine ⟨?_, by rw [hsz]; exact hl⟩
  try dsimp only
  rcases hb with hb | hb
  ·rw [hc b (h.cfo b hb).2]; exact (h.cfo b hb).1
  ·exact if_pos hb
 ·(try dsimp only); rw [hc _ hgl]; exact h.cg
 ·(try dsimp only); rw [hc _ hbl]; exact h.cmb
 ·intro b hb; (try dsimp only); rw [hc b (hml.2.2 b hb)]; exact h.crm b hb
 ·intro b hb; (try dsimp only); rw [hc b (hol.2.2 b hb)]; exact h.cro b hb
 ·intro b hb hcb
  rcases Nat.lt_or_ge b w.heap.size with hl | hl
  ·try dsimp only at hcb
   rw [hc b hl] at hcb
   exact h.new b hl hcb
  ·exact Nat.le_trans h.bel.size hl
theorem y0g.head' {p : Pure.Pkt} {t : List Pure.Pkt} (h : y0g w0 w g mb i Vm Vo (p :: t) lo gx gy Mm Mo) : ∃ bb oo cc d, Vm = .slice (some ⟨bb, oo, none⟩) (t.length + 1) cc ∧ t.length + 1 ≤ cc ∧ (∀ j u, (y2s (d, p))[j]? = some u → w.cell? ⟨bb, oo + j, none⟩ = some u) ∧
  ∀ w', Keeps y01 w w' → LHand (w'.setCell ⟨g, i, none⟩ (cutS (some ⟨bb, oo, none⟩) cc 1 t.length 3)) g gx d p ∧ y0g w0 (w'.setCell ⟨g, i, none⟩ (cutS (some ⟨bb, oo, none⟩) cc 1 t.length 3)) g mb i (cutS (some ⟨bb, oo, none⟩) cc 1 t.length 3) Vo t lo gx gy Mm Mo := by
 obtain ⟨bb, oo, cc, d, hV, hc, hcell, hh, _⟩ := h.head
 refine ⟨bb, oo, cc, d, hV, hc, hcell, fun w' k => ?_⟩
 obtain ⟨bb', oo', cc', d', hV', _, hcell', hh', hp⟩ := (h.quiet k).head
 rw [hV] at hV'
 injection hV' with e1 _ e3
 injection e1 with e1
 injection e1 with e1 e2
 subst e1 e2 e3
 have e4 : d' = d := by
  have a1 := hcell' 2 d' rfl
  have a2 := y04 (hcell 2 d rfl) k
  rw [a1] at a2
  exact Option.some.inj a2
 subst e4
 have K : Keeps (only g) w' (w'.setCell ⟨g, i, none⟩ (cutS (some ⟨bb, oo, none⟩) cc 1 t.length 3)) := (Keeps.refl (only g) w').store g i (fun _ => rfl) _
 exact ⟨(hh'.keeps K (fun b hb e => hb.2.1 e)).mono (fun b hb => ⟨Nat.lt_of_lt_of_le hb.1 K.size, hb.2⟩), hp⟩
end
theorem yhn : (Tryz.prog.info? 57).map (fun i => (i.zero, i.size, i.bytes)) = some (some (.slice none 0 0), 1, 24) := by kernel_rfl
theorem yg4 (n : Nat) : madeCells (Value.slice none 0 0).cells (n * 1) = (List.replicate n (Value.slice none 0 0)).toArray := by
 rw [show (Value.slice none 0 0).cells = #[.slice none 0 0] from rfl]
 apply Array.ext_getElem?
 intro i
 simp only [madeCells, Nat.mul_one]
 by_cases h : i < n
 ·simp [h, Nat.mod_one]
 ·simp [h]
theorem y5y (w : World) : (Instr.makeSlice 92 (.int .i64 2) (.int .i64 2)).run Tryz.prog w = .ok (.slice (some ⟨w.heap.size, 0, none⟩) 2 2) (w.alloc (.cells #[.slice none 0 0, .slice none 0 0] 57)) := by
 obtain ⟨i0, hi0, hz0, hz1, hz2⟩ := info_parts yhn
 have hrun := run_make (P := Tryz.prog) w 92 57 i0 _ Tryz.underlying92 hi0 hz0 .i64 .i64 2 2 (by omega) (by omega) (by rw [hz2]; omega) (by omega)
 rw [hrun, hz1, show Int.toNat 2 = 2 from rfl, yg4]
 rfl
def LTwo (w0 w : World) (gx gy : LF) (X Y : Pure.Lcp) : Prop :=
 ∃ (c : Nat → Nat) (Rx Ry : Nat → Prop), Env14 w0 ∧ Below w0.heap.size w0 w ∧ LAt w gx Rx X ∧ LAt w gy Ry Y ∧ c gx.g = 1 ∧ c gx.gm = 1 ∧ c gy.g = 2 ∧ c gy.gm = 2 ∧ (∀ b, LR gx Rx b → c b = 0) ∧ (∀ b, LR gy Ry b → c b = 0) ∧ ∀ b, b < w.heap.size → c b ≠ 0 → w0.heap.size ≤ b
theorem y4w {w0 w : World}  {gx gy : LF} {X Y : Pure.Lcp} (h : LTwo w0 w gx gy X Y) :
  y0g w0 ((w.alloc (.cells #[.pointer (some ⟨gx.l, 0, none⟩), .pointer (some ⟨gy.l, 0, none⟩)] 49)).alloc (.cells #[.slice none 0 0, .slice none 0 0] 57)) (w.heap.size + 1) w.heap.size 0 (.slice none 0 0) (.slice none 0 0) [] [] gx gy X Y := by
 obtain ⟨c, Rx, Ry, env, bel, hx, hy, c1, c2, c3, c4, c5, c6, new⟩ := h
 have K : Keeps y01 w ((w.alloc (.cells #[.pointer (some ⟨gx.l, 0, none⟩), .pointer (some ⟨gy.l, 0, none⟩)] 49)).alloc (.cells #[.slice none 0 0, .slice none 0 0] 57)) := ((Keeps.refl y01 w).alloc _).alloc _
 have e1 : (w.alloc (.cells #[.pointer (some ⟨gx.l, 0, none⟩), .pointer (some ⟨gy.l, 0, none⟩)] 49)).heap.size = w.heap.size + 1 := by simp
 have hn : ∀ b, ¬ y01 b := fun _ h => h
 have lx := hx.lt
 have ly := hy.lt
 have hc : ∀ b, b < w.heap.size → (if b < w.heap.size then c b else if b = w.heap.size then 6 else 5) = c b := fun b hb => if_pos hb
 refine ⟨fun b => if b < w.heap.size then c b else if b = w.heap.size then 6 else 5, Rx, Ry, y01, y01, by omega, env, ?_, hx.keeps K (hn _) (hn _) (fun _ _ => hn _), hy.keeps K (hn _) (hn _) (fun _ _ => hn _), ⟨_, by rw [← e1]; exact Blk.new _ _ _, rfl, rfl, rfl⟩, ⟨_, (Blk.new w _ _).alloc _, rfl, rfl, rfl⟩, ⟨[], rfl, y14.nil _ _ _ _, by simp⟩, ⟨[], rfl, y14.nil _ _ _ _, by simp⟩, ?_, ?_, ?_, ?_, fun b h => h.elim, fun b h => h.elim, ?_, ?_, ?_, ?_, ?_⟩
 ·exact Below.quiet bel K bel.size
 ·(try dsimp only); rw [hc _ lx.1]; exact c1
 ·(try dsimp only); rw [hc _ lx.2.1]; exact c2
 ·(try dsimp only); rw [hc _ ly.1]; exact c3
 ·(try dsimp only); rw [hc _ ly.2.1]; exact c4
 ·simp only [if_neg (show ¬ w.heap.size + 1 < w.heap.size by omega), if_neg (show ¬ w.heap.size + 1 = w.heap.size by omega)]
 ·simp only [if_neg (show ¬ w.heap.size < w.heap.size by omega), if_true]
 ·intro b hb; (try dsimp only); rw [hc _ (lx.2.2 b hb)]; exact c5 b hb
 ·intro b hb; (try dsimp only); rw [hc _ (ly.2.2 b hb)]; exact c6 b hb
 ·intro b hb hcb
  rcases Nat.lt_or_ge b w.heap.size with hl | hl
  ·try dsimp only at hcb
   rw [hc b hl] at hcb
   exact new b hl hcb
  ·exact Nat.le_trans bel.size hl
namespace Pure
def y1q (x : Lcp) (p : Pkt) : Lcp × List Pkt := ((x.input p).1, (x.input p).2.said.send)
structure Talks (N : Nat) (P : Nat → List Pkt → List Pkt → Lcp → Lcp → Prop) : Prop where
 mine : ∀ {k p t l X Y}, P k (p :: t) l X Y → P (k + 1) t (l ++ (X.input p).2.said.send) (X.input p).1 Y
 other : ∀ {k p t l X Y}, P k l (p :: t) X Y → P (k + 1) (l ++ (Y.input p).2.said.send) t X (Y.input p).1
 tame : ∀ {k q r X Y}, P k q r X Y → (X.n.naks ≤ 1000 ∧ X.n.dropped ≤ 1000000) ∧ Y.n.naks ≤ 1000 ∧ Y.n.dropped ≤ 1000000
 qs : ∀ {k q r X Y}, P k q r X Y → (q.length ≤ 100 ∧ r.length ≤ 100) ∧ (∀ p ∈ q, p.data.length ≤ 1000000) ∧ ∀ p ∈ r, p.data.length ≤ 1000000
 short : ∀ {k q r X Y}, P k q r X Y → 0 < q.length + r.length → k < N
 most : ∀ {k q r X Y}, P k q r X Y → k ≤ N
theorem y5w {x : Lcp} {p : Pkt} (hs : 1 < x.n.m.state) (hc : p.code = 2 ∨ p.code = 3 ∨ p.code = 4) : x.input p = x.with (x.n.input p) := by
 unfold Lcp.input
 rw [if_neg (by omega), if_neg (by omega), if_neg (by omega), if_neg (by omega), if_neg (by omega)]
theorem y5d {x : Lcp} {p : Pkt} (hs : 1 < x.n.m.state) (hc : p.code = 1) : x.input p = x.with (x.request p) := by
 unfold Lcp.input
 rw [if_neg (by omega), if_pos hc]
theorem y3v {x : Lcp} {p : Pkt} (hs : 1 < x.n.m.state) (hc : p.code = 1) (h : (readVals (split x.n.ours).2).magic = 0 ∨ (readVals (split p.data).2).magic ≠ (readVals (split x.n.ours).2).magic) : x.request p = x.n.input p := by
 unfold Lcp.request Neg.input
 rw [if_neg (by omega : ¬ x.n.m.state ≤ 1), if_pos hc]
 by_cases h1 : (split p.data).1 ≠ 0
 ·rw [if_pos h1, if_pos h1]
 ·rw [if_neg h1, if_neg h1, if_pos h]
theorem y1t {x : Lcp} {p : Pkt} {n : Neg} {l : List Pkt} (h : x.input p = x.with (x.n.input p)) (hn : y10 x.n p = (n, l)) : y1q x p = (⟨x.c, n⟩, l) := by
 unfold y1q
 rw [h]
 unfold y10 at hn
 injection hn with h1 h2
 show ((⟨x.c, (x.n.input p).1⟩ : Lcp), (x.n.input p).2.send) = _
 rw [h1, h2]
theorem knows_5 (b : Cfg) (d : List UInt8) : b.knows (5, d) = true := by unfold Cfg.knows; show (ruleOf b.rules 5).isSome = true; rw [y7h]; rfl
theorem rest_magic {c b : Cfg} {m : Nat} (hm : m < 4294967296) (h0 : m ≠ 0) : (readVals ((c.ask m).filter b.knows)).magic = m := by
 unfold readVals
 rw [y3u hm _ _ (fun o ho => y62 o (List.mem_filter.1 ho).1), if_pos (y27 (List.mem_filter.2 ⟨yac h0, knows_5 b _⟩) rfl)]
abbrev y5x (a b : Cfg) (m : Nat) : List Opt := (a.ask m).filter fun o => !b.knows o
abbrev restOf (a b : Cfg) (m : Nat) : List Opt := (a.ask m).filter b.knows
abbrev rOf (a b : Cfg) (m : Nat) : Bool := decide (y5x a b m ≠ [])
end Pure
namespace Pure
section
variable {a b : Cfg} {ma mb : Nat}
theorem y85 (h : rOf a b ma = false) : restOf a b ma = a.ask ma := by
 have h : y5x a b ma = [] := by simpa [rOf] using h
 unfold restOf
 rw [List.filter_eq_self]
 intro o ho
 have := List.filter_eq_nil_iff.1 h o ho
 simpa using this
end
end Pure
end Go.Proofs.YtmgicbckgpdkcaaGreatDoor
