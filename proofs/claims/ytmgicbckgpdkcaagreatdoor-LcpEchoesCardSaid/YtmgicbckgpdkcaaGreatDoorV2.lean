/- What follows of chapter 13's words: rules that let all pass; two that speak to one another. -/
import Derived.Great.Walk
import Derived.Test.YtmgicbckgpdkcaaGreatDoorD2
import Derived.Test.YtmgicbckgpdkcaaGreatDoorV1
namespace Go.Proofs.YtmgicbckgpdkcaaGreatDoor
namespace Pure
theorem y67 {n : Neg} {c l t u k : Nat} {i : Int} {d : List UInt8} {o a : List Opt} (hm : n.m = ⟨6, c, l, t, u⟩) (hs : split d = (0, o)) (hj : judge n.rules o (decide (t ≤ n.naks)) = (k, a)) (hk : k ≠ 2) :
  n.input ⟨1, i, d⟩ = ({ n with naks := if k = 3 then n.naks + 1 else n.naks }, sends [⟨k, i, (options a).2⟩]) := by
 have h1 : ¬ n.m.state ≤ 1 := by rw [hm]; simp
 have h2 : ¬ (split d).1 ≠ 0 := by rw [hs]; simp
 have hj' : judge n.rules o (decide (n.m.tries ≤ n.naks)) = (k, a) := by rw [hm]; exact hj
 unfold Neg.input
 rw [if_neg h1, if_pos rfl, if_neg h2, hs]
 unfold Neg.judged
 rw [hj']
 dsimp only
 rw [if_neg hk, if_neg (fun h => hk h.1)]
 unfold Neg.event
 rw [hm, y9e]
 rw [← hm]
 rfl
end Pure
namespace Pure
section
variable {N : Type} (inp : N → Pkt → N × List Pkt) (mx my : Nat → Pkt) (ra rb : Bool)
def y0h (r : Bool) (i : Nat) : Nat := if i = 0 then (if r then 1 else 3) else i + 1
structure Ends (E : Nat → Nat → N) (m o : Nat → Pkt) (r ro : Bool) : Prop where
 told : ∀ i j, i ≤ 4 → j ≤ 4 → (i = 1 ∧ r = true ∨ i = 3) → inp (E i j) (m i) = (E (i + 1) j, if i = 1 then [m 2] else [])
 asked : ∀ i j, i ≤ 4 → (j = 0 ∨ j = 2 ∧ ro = true) → inp (E i j) (o j) = (E i (y0h ro j), [o (y0h ro j)])
structure DuoAt (i j : Nat) (qx qy : List Pkt) : Prop where
 i4 : i ≤ 4
 j4 : j ≤ 4
 ri : i = 1 ∨ i = 2 → ra = true
 rj : j = 1 ∨ j = 2 → rb = true
 x : qx.Perm (waits mx my i j)
 y : qy.Perm (waits my mx j i)
theorem y6e {p a b : Pkt} {t : List Pkt} (h : (p :: t).Perm [a, b]) : (p = a ∧ t = [b]) ∨ (p = b ∧ t = [a]) := by
 have hm : p ∈ [a, b] := h.mem_iff.1 List.mem_cons_self
 simp only [List.mem_cons, List.not_mem_nil, or_false] at hm
 rcases hm with rfl | rfl
 ·have := (List.perm_cons p).1 h
  exact .inl ⟨rfl, List.perm_singleton.1 this⟩
 ·have h2 : (p :: t).Perm [p, a] := h.trans (List.Perm.swap p a [])
  have := (List.perm_cons p).1 h2
  exact .inr ⟨rfl, List.perm_singleton.1 this⟩
theorem y3s {p a : Pkt} {t : List Pkt} (h : (p :: t).Perm [a]) : p = a ∧ t = [] := by
 have := List.perm_singleton.1 h
 injection this with h1 h2
 exact ⟨h1, h2⟩
variable {inp mx my ra rb} {X Y : Nat → Nat → N}
theorem DuoAt.hear {i j : Nat} {p : Pkt} {t qy : List Pkt} (hX : Ends inp X mx my ra rb) (h : DuoAt mx my ra rb i j (p :: t) qy) :
  ∃ i' j' o, inp (X i j) p = (X i' j', o) ∧ DuoAt mx my ra rb i' j' t (qy ++ o) ∧ i' + j' > i + j ∧ ((i' = i + 1 ∧ j' = j ∧ (i = 1 ∨ i = 3)) ∨ (i' = i ∧ j' = y0h rb j ∧ (j = 0 ∨ j = 2))) := by
 obtain ⟨i4, j4, ri, rj, hx, hy⟩ := h
 have own : (i = 1 ∨ i = 3) → p = mx i → t.Perm (if y0r j then [my j] else []) → ∃ i' j' o, inp (X i j) p = (X i' j', o) ∧ DuoAt mx my ra rb i' j' t (qy ++ o) ∧ i' + j' > i + j ∧ ((i' = i + 1 ∧ j' = j ∧ (i = 1 ∨ i = 3)) ∨ (i' = i ∧ j' = y0h rb j ∧ (j = 0 ∨ j = 2))) := by
  rintro hi rfl ht
  refine ⟨i + 1, j, _, hX.told i j i4 j4 ?_, ⟨by omega, j4, ?_, rj, ?_, ?_⟩, by omega, .inl ⟨rfl, rfl, hi⟩⟩
  ·rcases hi with rfl | rfl
   ·exact .inl ⟨rfl, ri (.inl rfl)⟩
   ·exact .inr rfl
  ·intro h2
   rcases hi with rfl | rfl
   ·exact ri (.inl rfl)
   ·omega
  ·have e : waits mx my (i + 1) j = if y0r j then [my j] else [] := by
    rcases hi with rfl | rfl <;> rfl
   rw [e]; exact ht
  ·rcases hi with rfl | rfl
   ·have e1 : waits my mx j 1 = (if y0s j then [my j] else []) := by simp [waits, y0r]
    have e2 : waits my mx j (1 + 1) = (if y0s j then [my j] else []) ++ [mx 2] := by simp [waits, y0r]
    rw [e2]
    rw [e1] at hy
    exact hy.append_right _
   ·have e1 : waits my mx j 3 = (if y0s j then [my j] else []) := by simp [waits, y0r]
    have e2 : waits my mx j (3 + 1) = (if y0s j then [my j] else []) := by simp [waits, y0r]
    rw [e2]
    rw [e1] at hy
    simpa using hy
 have oth : (j = 0 ∨ j = 2) → p = my j → t.Perm (if y0s i then [mx i] else []) → ∃ i' j' o, inp (X i j) p = (X i' j', o) ∧ DuoAt mx my ra rb i' j' t (qy ++ o) ∧ i' + j' > i + j ∧ ((i' = i + 1 ∧ j' = j ∧ (i = 1 ∨ i = 3)) ∨ (i' = i ∧ j' = y0h rb j ∧ (j = 0 ∨ j = 2))) := by
  rintro hj rfl ht
  have hn : y0h rb j = 1 ∧ rb = true ∨ y0h rb j = 3 := by
   rcases hj with rfl | rfl
   ·cases rb
    ·exact .inr rfl
    ·exact .inl ⟨rfl, rfl⟩
   ·exact .inr rfl
  have hlt : y0h rb j > j := by
   rcases hj with rfl | rfl
   ·rcases hn with ⟨h, _⟩ | h <;> omega
   ·show 2 + 1 > 2; omega
  refine ⟨i, y0h rb j, _, hX.asked i j i4 ?_, ⟨i4, ?_, ri, ?_, ?_, ?_⟩, by omega, .inr ⟨rfl, rfl, hj⟩⟩
  ·rcases hj with rfl | rfl
   ·exact .inl rfl
   ·exact .inr ⟨rfl, rj (.inr rfl)⟩
  ·rcases hn with ⟨h, _⟩ | h <;> omega
  ·intro h2
   rcases hn with ⟨_, h⟩ | h
   ·exact h
   ·omega
  ·have e : waits mx my i (y0h rb j) = if y0s i then [mx i] else [] := by
    rcases hn with ⟨h, _⟩ | h <;> rw [h] <;> simp [waits, y0r]
   rw [e]; exact ht
  ·have e1 : waits my mx j i = if y0r i then [mx i] else [] := by
    rcases hj with rfl | rfl <;> rfl
   have e2 : waits my mx (y0h rb j) i = [my (y0h rb j)] ++ if y0r i then [mx i] else [] := by
    rcases hn with ⟨h, _⟩ | h <;> rw [h] <;> rfl
   rw [e2]
   rw [e1] at hy
   exact (hy.append_right _).trans List.perm_append_comm
 unfold waits at hx
 by_cases ha : y0s i = true
 ·have hi : i = 1 ∨ i = 3 := by simpa [y0s] using ha
  rw [if_pos ha] at hx
  by_cases hb : y0r j = true
  ·have hj : j = 0 ∨ j = 2 := by simpa [y0r] using hb
   rw [if_pos hb] at hx
   rcases y6e hx with ⟨h1, h2⟩ | ⟨h1, h2⟩
   ·exact own hi h1 (by rw [if_pos hb, h2])
   ·exact oth hj h1 (by rw [if_pos ha, h2])
  ·rw [if_neg hb] at hx
   obtain ⟨h1, h2⟩ := y3s hx
   exact own hi h1 (by rw [if_neg hb, h2])
 ·rw [if_neg ha] at hx
  by_cases hb : y0r j = true
  ·have hj : j = 0 ∨ j = 2 := by simpa [y0r] using hb
   rw [if_pos hb] at hx
   obtain ⟨h1, h2⟩ := y3s hx
   exact oth hj h1 (by rw [if_neg ha, h2])
  ·rw [if_neg hb] at hx
   exact absurd hx.length_eq (by simp)
theorem DuoAt.swap {i j : Nat} {qx qy : List Pkt} (h : DuoAt mx my ra rb i j qx qy) : DuoAt my mx rb ra j i qy qx := ⟨h.j4, h.i4, h.rj, h.ri, h.y, h.x⟩
theorem DuoAt.done {i j : Nat} (h : DuoAt mx my ra rb i j [] []) : i = 4 ∧ j = 4 := by
 have h1 := h.x.length_eq
 have h2 := h.y.length_eq
 have i4 := h.i4
 have j4 := h.j4
 obtain rfl | rfl | rfl | rfl | rfl : i = 0 ∨ i = 1 ∨ i = 2 ∨ i = 3 ∨ i = 4 := by omega
 all_goals (obtain rfl | rfl | rfl | rfl | rfl : j = 0 ∨ j = 1 ∨ j = 2 ∨ j = 3 ∨ j = 4 := by omega)
 all_goals (simp [waits, y0s, y0r] at h1 h2 ⊢)
theorem DuoAt.start : DuoAt mx my ra rb 0 0 [my 0] [mx 0] := ⟨by omega, by omega, by omega, by omega, .refl _, .refl _⟩
theorem DuoAt.short {i j : Nat} {qx qy : List Pkt} (h : DuoAt mx my ra rb i j qx qy) : qx.length ≤ 2 ∧ qy.length ≤ 2 := by
 have h1 := h.x.length_eq
 have h2 := h.y.length_eq
 have : ∀ (m o : Nat → Pkt) i j, (waits m o i j).length ≤ 2 := fun m o i j => by
  unfold waits
  split <;> split <;> simp
 exact ⟨by rw [h1]; exact this _ _ _ _, by rw [h2]; exact this _ _ _ _⟩
theorem DuoAt.goes {i j : Nat} {qx qy : List Pkt} (h : DuoAt mx my ra rb i j qx qy) (hq : 0 < qx.length + qy.length) : i + j < 8 := by
 have i4 := h.i4
 have j4 := h.j4
 by_cases he : i = 4 ∧ j = 4
 ·obtain ⟨rfl, rfl⟩ := he
  have h1 := h.x.length_eq
  have h2 := h.y.length_eq
  have e1 : (waits mx my 4 4).length = 0 := rfl
  have e2 : (waits my mx 4 4).length = 0 := rfl
  omega
 ·omega
end
end Pure
namespace Pure
theorem y5k {n : Neg} {c l t u k : Nat} {i : Int} {d : List UInt8} {o a : List Opt} (hm : n.m = ⟨7, c, l, t, u⟩) (hs : split d = (0, o)) (hj : judge n.rules o (decide (t ≤ n.naks)) = (k, a)) (hk : k ≠ 2) :
  n.input ⟨1, i, d⟩ = ({ n with naks := if k = 3 then n.naks + 1 else n.naks }, sends [⟨k, i, (options a).2⟩]) := by
 have h1 : ¬ n.m.state ≤ 1 := by rw [hm]; simp
 have h2 : ¬ (split d).1 ≠ 0 := by rw [hs]; simp
 have hj' : judge n.rules o (decide (n.m.tries ≤ n.naks)) = (k, a) := by rw [hm]; exact hj
 unfold Neg.input
 rw [if_neg h1, if_pos rfl, if_neg h2, hs]
 unfold Neg.judged
 rw [hj']
 dsimp only
 rw [if_neg hk, if_neg (fun h => hk h.1)]
 unfold Neg.event
 rw [hm, y9f]
 rw [← hm]
 rfl
def stOf (i j : Nat) : Nat := if i = 4 then (if 3 ≤ j then 9 else 7) else (if 3 ≤ j then 8 else 6)
def idOf (r : Bool) (i : Nat) : Nat := if r = true ∧ 2 ≤ i then 2 else 1
theorem y33 (r : Bool) : idOf r 4 = idOf r 3 := by cases r <;> rfl
def y06 (rules : List Rule) (ask rest theirs : List Opt) (r : Bool) (t u i j : Nat) : Neg :=
 ⟨rules, ask, if i ≤ 1 then ask else rest, ⟨stOf i j, if i = 4 then t else t - 1, if i = 4 ∧ 3 ≤ j then 0 else u, t, u⟩, idOf r i, idOf r i, 0, decide (i < 4), if i = 4 then rest else [], if 3 ≤ j then theirs else [], 0, (options (if i ≤ 1 then ask else rest)).2⟩
def y1g (ask rej rest : List Opt) (r : Bool) (i : Nat) : Pkt :=
 if i = 0 then ⟨1, 1, (options ask).2⟩ else if i = 1 then ⟨4, 1, (options rej).2⟩ else if i = 2 then ⟨1, 2, (options rest).2⟩ else ⟨2, (idOf r 3 : Nat), (options rest).2⟩
section
variable {rules orules : List Rule} {ask rej rest oask orej orest : List Opt} {r ro : Bool} {t u : Nat}
theorem y6g (h : Side rules orules ask rej rest true) (theirs : List Opt) (j : Nat) : y10 (y06 rules ask rest theirs true t u 1 j) (y1g ask rej rest true 1) = (y06 rules ask rest theirs true t u 2 j, [y1g ask rej rest true 2]) := by
 have hin : rej.all (fun o => (split (y06 rules ask rest theirs true t u 1 j).ours).2.any fun q => decide (o = q)) = true := by
  have e : (split (y06 rules ask rest theirs true t u 1 j).ours).2 = ask := by
   show (split (options ask).2).2 = ask
   rw [y0e h.fa]
  rw [e, List.all_eq_true]
  intro o ho
  rw [List.any_eq_true]
  exact ⟨o, h.sub o ho, decide_eq_true rfl⟩
 have hl := h.left rfl
 by_cases hj : 3 ≤ j
 ·have hm : (y06 rules ask rest theirs true t u 1 j).m = ⟨8, t - 1, u, t, u⟩ := by
   show (⟨stOf 1 j, t - 1, u, t, u⟩ : Mach) = _
   unfold stOf
   rw [if_neg (by omega), if_pos hj]
  have h1 := y6q (n := y06 rules ask rest theirs true t u 1 j) hm rfl (y0e h.fr) hin
  rw [show left (y06 rules ask rest theirs true t u 1 j).rules (y06 rules ask rest theirs true t u 1 j).request rej = rest from hl] at h1
  refine y0k (h1.trans (Prod.ext ?_ rfl)) rfl
  show anew _ rest (t - 1) u = _
  unfold anew y06
  simp only [stOf, if_neg (show ¬ (2 : Nat) = 4 by decide), if_neg (show ¬ (1 : Nat) = 4 by decide), if_pos hj]
  rfl
 ·have hm : (y06 rules ask rest theirs true t u 1 j).m = ⟨6, t - 1, u, t, u⟩ := by
   show (⟨stOf 1 j, t - 1, u, t, u⟩ : Mach) = _
   unfold stOf
   rw [if_neg (by omega), if_neg hj]
  have h1 := y6p (n := y06 rules ask rest theirs true t u 1 j) hm rfl (y0e h.fr) hin
  rw [show left (y06 rules ask rest theirs true t u 1 j).rules (y06 rules ask rest theirs true t u 1 j).request rej = rest from hl] at h1
  refine y0k (h1.trans (Prod.ext ?_ rfl)) rfl
  show y44 _ rest (t - 1) u = _
  unfold y44 y06
  simp only [stOf, if_neg (show ¬ (2 : Nat) = 4 by decide), if_neg (show ¬ (1 : Nat) = 4 by decide), if_neg hj]
  rfl
theorem y52 (h : Side rules orules ask rej rest r) (theirs : List Opt) (j : Nat) : y10 (y06 rules ask rest theirs r t u 3 j) (y1g ask rej rest r 3) = (y06 rules ask rest theirs r t u 4 j, []) := by
 have ho : (y06 rules ask rest theirs r t u 3 j).ours = (options rest).2 := rfl
 have hs : (split (options rest).2).2 = rest := by rw [y0e h.fs]
 by_cases hj : 3 ≤ j
 ·have hm : (y06 rules ask rest theirs r t u 3 j).m = ⟨8, t - 1, u, t, u⟩ := by
   show (⟨stOf 3 j, t - 1, u, t, u⟩ : Mach) = _
   unfold stOf
   rw [if_neg (by omega), if_pos hj]
  have h1 := y6o (n := y06 rules ask rest theirs r t u 3 j) hm rfl
  refine y0k (h1.trans (Prod.ext ?_ rfl)) rfl
  rw [ho, hs]
  unfold y06
  simp only [stOf, if_pos hj, true_and, if_true, y33]
  rfl
 ·have hm : (y06 rules ask rest theirs r t u 3 j).m = ⟨6, t - 1, u, t, u⟩ := by
   show (⟨stOf 3 j, t - 1, u, t, u⟩ : Mach) = _
   unfold stOf
   rw [if_neg (by omega), if_neg hj]
  have h1 := y6n (n := y06 rules ask rest theirs r t u 3 j) hm rfl
  refine y0k (h1.trans (Prod.ext ?_ rfl)) rfl
  rw [ho, hs]
  unfold y06
  simp only [stOf, if_neg hj, true_and, if_true, y33]
  rfl
theorem y5j (h : Side orules rules oask orej orest true) (ht : 1 ≤ t) (theirs : List Opt) (i : Nat) : y10 (y06 rules ask rest theirs r t u i 0) (y1g oask orej orest true 0) = (y06 rules ask rest theirs r t u i 1, [y1g oask orej orest true 1]) := by
 have hj : judge rules oask (decide (t ≤ 0)) = (4, orej) := by rw [decide_eq_false (by omega)]; exact h.first
 by_cases hi : i = 4
 ·subst hi
  have h1 := y5k (n := y06 rules ask rest theirs r t u 4 0) (c := t) (l := u) (t := t) (u := u) (i := 1) rfl (y0e h.fa) hj (by decide)
  exact y0k (h1.trans (Prod.ext rfl rfl)) rfl
 ·have hm : (y06 rules ask rest theirs r t u i 0).m = ⟨6, t - 1, u, t, u⟩ := by
   show (⟨stOf i 0, if i = 4 then t else t - 1, if i = 4 ∧ 3 ≤ 0 then 0 else u, t, u⟩ : Mach) = _
   unfold stOf
   rw [if_neg hi, if_neg hi, if_neg (show ¬ 3 ≤ 0 by decide), if_neg (fun h : i = 4 ∧ 3 ≤ 0 => hi h.1)]
  have h1 := y67 (n := y06 rules ask rest theirs r t u i 0) (i := 1) hm (y0e h.fa) hj (by decide)
  refine y0k (h1.trans (Prod.ext ?_ rfl)) rfl
  unfold y06 stOf
  simp only [if_neg hi, if_neg (fun h : i = 4 ∧ 3 ≤ 0 => hi h.1), if_neg (fun h : i = 4 ∧ 3 ≤ 1 => hi h.1)]
  rfl
theorem y2f (ht : 1 ≤ t) (theirs : List Opt) (hf : Fine theirs) (hj : judge rules theirs false = (2, theirs)) (id : Int) (j : Nat) (hj3 : j < 3) (i : Nat) :
  y10 (y06 rules ask rest theirs r t u i j) ⟨1, id, (options theirs).2⟩ = (y06 rules ask rest theirs r t u i 3, [⟨2, id, (options theirs).2⟩]) := by
 have hj' : judge rules theirs (decide (t ≤ 0)) = (2, theirs) := by rw [decide_eq_false (by omega)]; exact hj
 have n3 : ¬ 3 ≤ j := by omega
 by_cases hi : i = 4
 ·subst hi
  have hm : (y06 rules ask rest theirs r t u 4 j).m = ⟨7, t, u, t, u⟩ := by
   show (⟨stOf 4 j, t, if 4 = 4 ∧ 3 ≤ j then 0 else u, t, u⟩ : Mach) = _
   unfold stOf
   rw [if_pos rfl, if_neg n3, if_neg (fun h => n3 h.2)]
  have h1 := y6r (n := y06 rules ask rest theirs r t u 4 j) (i := id) hm (y0e hf) hj'
  refine y0k (h1.trans (Prod.ext ?_ rfl)) rfl
  rfl
 ·have hm : (y06 rules ask rest theirs r t u i j).m = ⟨6, t - 1, u, t, u⟩ := by
   show (⟨stOf i j, if i = 4 then t else t - 1, if i = 4 ∧ 3 ≤ j then 0 else u, t, u⟩ : Mach) = _
   unfold stOf
   rw [if_neg hi, if_neg hi, if_neg n3, if_neg (fun h => hi h.1)]
  have h1 := y7u (n := y06 rules ask rest theirs r t u i j) (i := id) hm (y0e hf) hj'
  refine y0k (h1.trans (Prod.ext ?_ rfl)) rfl
  unfold y06 stOf
  simp only [if_neg hi, if_neg (fun h : i = 4 ∧ 3 ≤ 3 => hi h.1)]
  rfl
theorem y6a (h : Side rules orules ask rej rest r) (ho : Side orules rules oask orej orest ro) (ht : 1 ≤ t) : Ends y10 (y06 rules ask rest orest r t u) (y1g ask rej rest r) (y1g oask orej orest ro) r ro := by
 refine ⟨fun i j _ _ hi => ?_, fun i j _ hj => ?_⟩
 ·rcases hi with ⟨rfl, rfl⟩ | rfl
  ·exact y6g h orest j
  ·exact y52 h orest j
 ·rcases hj with rfl | ⟨rfl, rfl⟩
  ·cases ro
   ·have hs := ho.same rfl
    have h2 := ho.first
    subst hs
    exact y2f ht _ ho.fs h2 1 0 (by omega) i
   ·exact y5j ho ht orest i
  ·exact y2f ht orest ho.fs ho.again 2 2 (by omega) i
end
end Pure
namespace Pure
def linkAt (a b : Cfg) (ma mb : Nat) (t u i j : Nat) : Lcp := ⟨a, y06 a.rules (a.ask ma) (restOf a b ma) (restOf b a mb) (rOf a b ma) t u i j⟩
def lpkt (a b : Cfg) (m : Nat) (i : Nat) : Pkt := y1g (a.ask m) (y5x a b m) (restOf a b m) (rOf a b m) i
theorem y28 (rules : List Rule) (ask rest theirs : List Opt) (r : Bool) (t u i j : Nat) : 1 < (y06 rules ask rest theirs r t u i j).m.state := by
 show 1 < stOf i j
 unfold stOf
 split <;> split <;> decide
theorem y69 {a b : Cfg} {ma mb : Nat} (ha : a.fine = true) (hb : b.fine = true) (hs : a.server = !b.server) (hma : ma < 4294967296) (hmb : mb < 4294967296) (h0a : ma ≠ 0) (h0b : mb ≠ 0) (hne : ma ≠ mb) {t : Nat} (ht : 1 ≤ t) (u : Nat) :
  Ends y1q (linkAt a b ma mb t u) (lpkt a b ma) (lpkt b a mb) (rOf a b ma) (rOf b a mb) := by
 have hs' : b.server = !a.server := by rw [hs, Bool.not_not]
 have H := y6a (u := u) (y4a ha hs ma) (y4a hb hs' mb) ht
 refine ⟨fun i j hi hj h => ?_, fun i j hi hj => ?_⟩
 ·refine y1t (y5w (y28 _ _ _ _ _ _ _ _ _) ?_) (H.told i j hi hj h)
  rcases h with ⟨rfl, _⟩ | rfl
  ·exact .inr (.inr rfl)
  ·exact .inl rfl
 ·have key : ∀ l, Fine l → (readVals l).magic = mb → ∀ id : Int, (linkAt a b ma mb t u i j).input ⟨1, id, (options l).2⟩ = (linkAt a b ma mb t u i j).with ((linkAt a b ma mb t u i j).n.input ⟨1, id, (options l).2⟩) := fun l hf hm id => by
   rw [y5d (y28 _ _ _ _ _ _ _ _ _) rfl, y3v (y28 _ _ _ _ _ _ _ _ _) rfl (.inr ?_)]
   rw [y0e hf, hm]
   have ho : (readVals (split (linkAt a b ma mb t u i j).n.ours).2).magic = ma := by
    show (readVals (split (options (if i ≤ 1 then a.ask ma else restOf a b ma)).2).2).magic = ma
    split
    ·rw [y0e (ask_fine a ma)]; exact y31 hma h0a
    ·rw [y0e (y0w (ask_fine a ma) _)]; exact rest_magic hma h0a
   rw [ho]
   exact fun e => hne e.symm
  rcases hj with rfl | ⟨rfl, hr⟩
  ·exact y1t (key _ (ask_fine b mb) (y31 hmb h0b) 1) (H.asked i 0 hi (.inl rfl))
  ·exact y1t (key _ (y0w (ask_fine b mb) _) (rest_magic hmb h0b) 2) (H.asked i 2 hi (.inr ⟨rfl, hr⟩))
end Pure
namespace Pure
theorem y2k (a b : Cfg) (m i : Nat) : (lpkt a b m i).data.length ≤ 1000000 := by
 have f1 := y1d (ask_fine a m)
 have f2 := y1d (y0w (ask_fine a m) fun o => !b.knows o)
 have f3 := y1d (y0w (ask_fine a m) b.knows)
 unfold lpkt y1g
 split
 ·exact Nat.le_trans f1 (by decide)
 ·split
  ·exact Nat.le_trans f2 (by decide)
  ·split
   ·exact Nat.le_trans f3 (by decide)
   ·exact Nat.le_trans f3 (by decide)
theorem y4u (rules : List Rule) (ask rest theirs : List Opt) (r : Bool) (t u j i : Nat) (hi : i = 1 ∨ i = 3) : y06 rules ask rest theirs r t u j i = y06 rules ask rest theirs r t u j (i + 1) := by
 rcases hi with rfl | rfl
 ·unfold y06 stOf
  simp only [show (3 ≤ 1) = False from by simp, show (3 ≤ 1 + 1) = False from by simp]
 ·unfold y06 stOf
  simp only [show (3 ≤ 3) = True from by simp, show (3 ≤ 3 + 1) = True from by simp]
theorem y3y (rules : List Rule) (ask rest theirs : List Opt) (r : Bool) (t u i j : Nat) (hr : r = false → rest = ask) (hj : j = 0 ∨ j = 2) (hr2 : j = 2 → r = true) : y06 rules ask rest theirs r t u j i = y06 rules ask rest theirs r t u (y0h r j) i := by
 rcases hj with rfl | rfl
 ·cases r
  ·have := hr rfl
   subst this
   unfold y06 stOf y0h idOf
   simp
  ·unfold y06 stOf y0h idOf
   simp
 ·have := hr2 rfl
  subst this
  unfold y06 stOf y0h idOf
  simp
section
variable {a b : Cfg} {ma mb : Nat}
theorem y3k (a b : Cfg) (ma mb t u : Nat) : (⟨a, begun a.rules (a.ask ma) t u⟩ : Lcp) = linkAt a b ma mb t u 0 0 := by
 unfold linkAt y06 begun stOf idOf
 simp
def duoP (a b : Cfg) (ma mb t u t' u' : Nat) (k : Nat) (q r : List Pkt) (X Y : Lcp) : Prop :=
 ∃ i j, k ≤ i + j ∧ DuoAt (lpkt a b ma) (lpkt b a mb) (rOf a b ma) (rOf b a mb) i j q r ∧ X = linkAt a b ma mb t u i j ∧ Y = linkAt b a mb ma t' u' j i
theorem y32 {t u t' u' k : Nat} {q r : List Pkt} {X Y : Lcp} (h : duoP a b ma mb t u t' u' k q r X Y) : duoP b a mb ma t' u' t u k r q Y X := by
 obtain ⟨i, j, h1, h2, h3, h4⟩ := h
 exact ⟨j, i, by omega, h2.swap, h4, h3⟩
theorem y3m (ha : a.fine = true) (hb : b.fine = true) (hs : a.server = !b.server) (hma : ma < 4294967296) (hmb : mb < 4294967296) (h0a : ma ≠ 0) (h0b : mb ≠ 0) (hne : ma ≠ mb) {t : Nat} (ht : 1 ≤ t) (u t' u' : Nat) {k : Nat} {p : Pkt} {q l : List Pkt} {X Y : Lcp} (h : duoP a b ma mb t u t' u' k (p :: q) l X Y) :
  duoP a b ma mb t u t' u' (k + 1) q (l ++ (X.input p).2.said.send) (X.input p).1 Y := by
 obtain ⟨i, j, h1, h2, rfl, rfl⟩ := h
 obtain ⟨i', j', o, e, h3, h4, h5⟩ := h2.hear (y69 ha hb hs hma hmb h0a h0b hne ht u)
 unfold y1q at e
 injection e with e1 e2
 rw [e1, e2]
 refine ⟨i', j', by omega, h3, rfl, ?_⟩
 rcases h5 with ⟨rfl, rfl, hi⟩ | ⟨rfl, rfl, hj⟩
 ·unfold linkAt
  rw [y4u _ _ _ _ _ _ _ _ _ hi]
 ·unfold linkAt
  rw [y3y _ _ _ _ _ _ _ _ _ y85 hj (fun e => h2.rj (.inr e))]
theorem duo_talks (ha : a.fine = true) (hb : b.fine = true) (hs : a.server = !b.server) (hma : ma < 4294967296) (hmb : mb < 4294967296) (h0a : ma ≠ 0) (h0b : mb ≠ 0) (hne : ma ≠ mb) {t t' : Nat} (ht : 1 ≤ t) (ht' : 1 ≤ t') (u u' : Nat) :
  Talks 8 (duoP a b ma mb t u t' u') := by
 refine ⟨fun h => y3m ha hb hs hma hmb h0a h0b hne ht u t' u' h, fun h => ?_, fun h => ?_, fun h => ?_, fun h hq => ?_, fun h => ?_⟩
 ·exact y32 (y3m hb ha (by rw [hs, Bool.not_not]) hmb hma h0b h0a (fun e => hne e.symm) ht' u' t u (y32 h))
 ·obtain ⟨i, j, h1, h2, rfl, rfl⟩ := h
  exact ⟨⟨Nat.zero_le _, Nat.zero_le _⟩, Nat.zero_le _, Nat.zero_le _⟩
 ·obtain ⟨i, j, h1, h2, rfl, rfl⟩ := h
  have hl := h2.short
  refine ⟨⟨by omega, by omega⟩, fun p hp => ?_, fun p hp => ?_⟩
  ·have hm := h2.x.mem_iff.1 hp
   unfold waits at hm
   rw [List.mem_append] at hm
   rcases hm with hm | hm <;> split at hm <;> first | (rw [List.mem_singleton.1 hm]; exact y2k _ _ _ _) | cases hm
  ·have hm := h2.y.mem_iff.1 hp
   unfold waits at hm
   rw [List.mem_append] at hm
   rcases hm with hm | hm <;> split at hm <;> first | (rw [List.mem_singleton.1 hm]; exact y2k _ _ _ _) | cases hm
 ·obtain ⟨i, j, h1, h2, rfl, rfl⟩ := h
  have := h2.goes hq
  omega
 ·obtain ⟨i, j, h1, h2, rfl, rfl⟩ := h
  have := h2.i4
  have := h2.j4
  omega
theorem duo_start (t u t' u' : Nat) : duoP a b ma mb t u t' u' 0 [⟨1, 1, (options (b.ask mb)).2⟩] [⟨1, 1, (options (a.ask ma)).2⟩] ⟨a, begun a.rules (a.ask ma) t u⟩ ⟨b, begun b.rules (b.ask mb) t' u'⟩ :=
 ⟨0, 0, Nat.le_refl _, DuoAt.start, y3k a b ma mb t u, y3k b a mb ma t' u'⟩
theorem duo_done {t u t' u' k : Nat} {X Y : Lcp} (h : duoP a b ma mb t u t' u' k [] [] X Y) : X = linkAt a b ma mb t u 4 4 ∧ Y = linkAt b a mb ma t' u' 4 4 := by
 obtain ⟨i, j, h1, h2, rfl, rfl⟩ := h
 obtain ⟨rfl, rfl⟩ := h2.done
 exact ⟨rfl, rfl⟩
end
end Pure
open Go.RowKit
section
variable {P : Nat → List Pure.Pkt → List Pure.Pkt → Pure.Lcp → Pure.Lcp → Prop} {M : Nat} {w0 w w' : World} {g mb k : Nat} {gx gy : LF}
end
section
variable {w0 w : World} {g mb i : Nat} {gx gy : LF} {Vm Vo : Value} {lm lo : List Pure.Pkt} {Mm Mo : Pure.Lcp}
theorem y0g.mines (h : y0g w0 w g mb i Vm Vo lm lo gx gy Mm Mo) : Calls Tryz.prog 42 #[.pointer (some ⟨gx.l, 0, none⟩)] w fun e w' => e = .returned (y0n Mm.mine) ∧ Keeps y01 w w' := by
 obtain ⟨R, f, h⟩ := h.at
 exact y3o h
end
theorem y1p {w w1 w2 : World} (k : Keeps y01 w w1) (h : Below w1.heap.size w1 w2) : Below w.heap.size w w2 :=
 ⟨h.os.trans k.os, h.tape.trans k.tape, h.output.trans k.output, Nat.le_trans k.size h.size, fun b hb => (h.block b (Nat.lt_of_lt_of_le hb k.size)).trans (k.block b hb (fun e => e))⟩
section
variable {w0 w w' : World} {gx gy : LF} {X Y : Pure.Lcp}
theorem LTwo.swap (h : LTwo w0 w gx gy X Y) : LTwo w0 w gy gx Y X := by
 obtain ⟨c, Rx, Ry, env, bel, hx, hy, c1, c2, c3, c4, c5, c6, new⟩ := h
 refine ⟨fun b => if c b = 1 then 2 else if c b = 2 then 1 else c b, Ry, Rx, env, bel, hy, hx, ?_, ?_, ?_, ?_, ?_, ?_, ?_⟩
 ·simp [c3]
 ·simp [c4]
 ·simp [c1]
 ·simp [c2]
 ·intro b hb; simp [c6 b hb]
 ·intro b hb; simp [c5 b hb]
 ·intro b hb hc
  refine new b hb (fun h0 => hc ?_)
  simp [h0]
theorem LTwo.below (h : LTwo w0 w gx gy X Y) : Below w0.heap.size w0 w := by
 obtain ⟨c, Rx, Ry, env, bel, _⟩ := h
 exact bel
theorem LTwo.env (h : LTwo w0 w gx gy X Y) : Env14 w := by
 obtain ⟨c, Rx, Ry, env, bel, _⟩ := h
 exact env.below bel
theorem LTwo.at (h : LTwo w0 w gx gy X Y) : ∃ R f, LObj w gx R f X := by
 obtain ⟨c, Rx, Ry, env, bel, ⟨f, hx⟩, _⟩ := h
 exact ⟨Rx, f, hx⟩
theorem LTwo.lt (h : LTwo w0 w gx gy X Y) : gx.g < w.heap.size ∧ gx.gm < w.heap.size := by
 obtain ⟨c, Rx, Ry, env, bel, hx, _⟩ := h
 exact ⟨hx.lt.1, hx.lt.2.1⟩
theorem LTwo.old (h : LTwo w0 w gx gy X Y) : w0.heap.size ≤ gx.g ∧ w0.heap.size ≤ gx.gm := by
 obtain ⟨c, Rx, Ry, env, bel, hx, hy, c1, c2, c3, c4, c5, c6, new⟩ := h
 exact ⟨new _ hx.lt.1 (by rw [c1]; decide), new _ hx.lt.2.1 (by rw [c2]; decide)⟩
theorem LTwo.quiet (h : LTwo w0 w gx gy X Y) (k : Keeps y01 w w') : LTwo w0 w' gx gy X Y := by
 obtain ⟨c, Rx, Ry, env, bel, hx, hy, c1, c2, c3, c4, c5, c6, new⟩ := h
 have lx := hx.lt
 have ly := hy.lt
 have hc : ∀ b, b < w.heap.size → (if w.heap.size ≤ b then 0 else c b) = c b := fun b hb => if_neg (by omega)
 refine ⟨fun b => if w.heap.size ≤ b then 0 else c b, Rx, Ry, env, Below.quiet bel k bel.size, hx.keeps k (fun h => h) (fun h => h) (fun _ _ h => h), hy.keeps k (fun h => h) (fun h => h) (fun _ _ h => h), ?_, ?_, ?_, ?_, ?_, ?_, ?_⟩
 ·(try dsimp only); rw [hc _ lx.1]; exact c1
 ·(try dsimp only); rw [hc _ lx.2.1]; exact c2
 ·(try dsimp only); rw [hc _ ly.1]; exact c3
 ·(try dsimp only); rw [hc _ ly.2.1]; exact c4
 ·intro b hb; (try dsimp only); rw [hc _ (lx.2.2 b hb)]; exact c5 b hb
 ·intro b hb; (try dsimp only); rw [hc _ (ly.2.2 b hb)]; exact c6 b hb
 ·intro b hb hcb
  rcases Nat.lt_or_ge b w.heap.size with hl | hl
  ·try dsimp only at hcb
   rw [hc b hl] at hcb
   exact new b hl hcb
  ·exact Nat.le_trans bel.size hl
def y3h (w0 w : World) (gx gy : LF) (X' Y : Pure.Lcp) (o : Pure.LSaid) (r : Ending) (w' : World) : Prop :=
 ∃ sv, ∃ ps : List (Value × Pure.Pkt), r = .returned (.agg #[sv, .bool o.said.up, .bool o.said.down, .bool o.said.start, .bool o.said.done, .int .i64 (o.reject : Int)]) ∧ ps.map Prod.snd = o.said.send ∧ PRow w' (fun b => w.heap.size ≤ b ∧ b < w'.heap.size) sv ps ∧ LTwo w0 w' gx gy X' Y ∧ Keeps (fun b => b = gx.g ∨ b = gx.gm) w w'
theorem LTwo.call {X' : Pure.Lcp} {o : Pure.LSaid} {fn : Nat} {args : Array Value} (h : LTwo w0 w gx gy X Y) (hcall : ∀ R f, LObj w gx R f X → Calls Tryz.prog fn args w fun r w' => ∃ v, r = .returned v ∧ y3g w w' v o ∧ y1k w w' gx R X') : Calls Tryz.prog fn args w fun r w' => y3h w0 w gx gy X' Y o r w' := by
 obtain ⟨c, Rx, Ry, env, bel, ⟨fx, hx⟩, hy, c1, c2, c3, c4, c5, c6, new⟩ := h
 refine (hcall Rx fx hx).mono ?_
 rintro r w' ⟨v, rfl, ⟨sv, ps, rfl, hp, he, _⟩, f', R', hn, hsub, k⟩
 have hxl : LAt w gx Rx X := ⟨fx, hx⟩
 have lx := hxl.lt
 have ly := hy.lt
 have hc : ∀ b, b < w.heap.size → (if w.heap.size ≤ b then 0 else c b) = c b := fun b hb => if_neg (by omega)
 have hS : ∀ b, c b ≠ 1 → ¬ (b = gx.g ∨ b = gx.gm) := fun b hb e => by
  rcases e with rfl | rfl
  ·exact hb c1
  ·exact hb c2
 have bel' : Below w0.heap.size w0 w' := ⟨k.os.trans bel.os, k.tape.trans bel.tape, k.output.trans bel.output, Nat.le_trans bel.size k.size, fun b hb => (k.block b (Nat.lt_of_lt_of_le hb bel.size) (fun e => by
  rcases e with e | e
  ·have := new b (Nat.lt_of_lt_of_le hb bel.size) (by rw [e, c1]; decide); omega
  ·have := new b (Nat.lt_of_lt_of_le hb bel.size) (by rw [e, c2]; decide); omega)).trans (bel.block b hb)⟩
 refine ⟨sv, ps, rfl, he, hp, ⟨fun b => if w.heap.size ≤ b then 0 else c b, R', Ry, env, bel', ⟨f', hn⟩, hy.keeps k (hS _ (by rw [c3]; decide)) (hS _ (by rw [c4]; decide)) (fun b hb => hS b (by rw [c6 b hb]; decide)), ?_, ?_, ?_, ?_, ?_, ?_, ?_⟩, k⟩
 ·(try dsimp only); rw [hc _ lx.1]; exact c1
 ·(try dsimp only); rw [hc _ lx.2.1]; exact c2
 ·(try dsimp only); rw [hc _ ly.1]; exact c3
 ·(try dsimp only); rw [hc _ ly.2.1]; exact c4
 ·intro b hb
  try dsimp only
  rcases Nat.lt_or_ge b w.heap.size with hl | hl
  ·rw [hc b hl]
   rcases hb with rfl | hb
   ·exact c5 _ (.inl rfl)
   ·rcases hsub b hb with h1 | h1
    ·exact c5 b (.inr h1)
    ·omega
  ·exact if_pos hl
 ·intro b hb; (try dsimp only); rw [hc _ (ly.2.2 b hb)]; exact c6 b hb
 ·intro b hb hcb
  rcases Nat.lt_or_ge b w.heap.size with hl | hl
  ·try dsimp only at hcb
   rw [hc b hl] at hcb
   exact new b hl hcb
  ·exact Nat.le_trans bel.size hl
theorem LTwo.acts (h : LTwo w0 w gx gy X Y) (e : Int) (he : e = 0 ∨ e = 1 ∨ e = 2 ∨ e = 3) (hnk : X.n.naks ≤ 1000) {X' : Pure.Lcp} {o : Pure.LSaid} (hE : X.act e = (X', o)) :
  Calls Tryz.prog 28 #[.pointer (some ⟨gx.l, 0, none⟩), .int .i64 e] w fun r w' => y3h w0 w gx gy X' Y o r w' :=
 h.call fun R f hx => by have := y56 hx e he hnk; rw [hE] at this; exact this
theorem LTwo.hears (h : LTwo w0 w gx gy X Y) (F : Nat → Prop) (p : Pure.Pkt) (d : Value) (hF : ∀ b, F b → b < w.heap.size ∧ b ≠ gx.g ∧ b ≠ gx.gm) (hd : Row w F 1 d p.data.length (u8s p.data)) (hnk : X.n.naks ≤ 1000) (hdr : X.n.dropped ≤ 1000000) (hL : p.data.length ≤ 1000000) {X' : Pure.Lcp} {o : Pure.LSaid} (hE : X.input p = (X', o)) :
  Calls Tryz.prog 30 #[.pointer (some ⟨gx.l, 0, none⟩), pktV p d] w fun r w' => y3h w0 w gx gy X' Y o r w' :=
 h.call fun R f hx => by
  obtain ⟨a, ha⟩ := h.env.sent
  have := y4q hx F p d a h.env.env.hd ha hF hd hnk hdr hL
  rw [hE] at this
  exact this
theorem LTwo.state (h : LTwo w0 w gx gy X Y) : Calls Tryz.prog 40 #[.pointer (some ⟨gx.l, 0, none⟩)] w fun e w' => e = .returned (.int .i64 (X.n.m.state : Nat)) ∧ w = w' := by
 obtain ⟨R, f, h⟩ := h.at
 exact y2l h
theorem LTwo.mines (h : LTwo w0 w gx gy X Y) : Calls Tryz.prog 42 #[.pointer (some ⟨gx.l, 0, none⟩)] w fun e w' => e = .returned (y0n X.mine) ∧ Keeps y01 w w' := by
 obtain ⟨R, f, h⟩ := h.at
 exact y3o h
theorem yan {w : World} {F : Nat → Prop} {A : Option Addr} {c : Nat} {v : Value} {p : Pure.Pkt} (h : PRow w F (.slice A 1 c) [(v, p)]) : ∃ q r A' c', A = some ⟨q, r, none⟩ ∧ v = .slice A' p.data.length c' ∧ w.cell? ⟨q, r, none⟩ = some (.int .i64 p.code) ∧ w.cell? ⟨q, r + 1, none⟩ = some (.int .i64 p.id) ∧ w.cell? ⟨q, r + 2, none⟩ = some v ∧ Row w F 1 v p.data.length (u8s p.data) := by
 obtain ⟨q, r, A', c', p', rfl, _, h1, h2, h3⟩ := h.pick 0 (by simp)
 simp only [List.getElem?_cons_zero, Option.some.injEq, Prod.mk.injEq] at h3
 obtain ⟨rfl, rfl⟩ := h3
 rw [Nat.zero_mul, Nat.add_zero] at h1
 exact ⟨q, r, A', c', rfl, rfl, h1 0 _ rfl, h1 1 _ rfl, h1 2 _ rfl, h2⟩
theorem PRow.place {w : World} {F : Nat → Prop} {q r c : Nat} {v : Value} {p : Pure.Pkt} (h : PRow w F (.slice (some ⟨q, r, none⟩) 1 c) [(v, p)]) : F q := by
 obtain ⟨_, _, A9, c9, e9, _, _, h9⟩ := h.out
 obtain ⟨b9, o9, e9', hF9, _⟩ := h9 (by simp)
 injection e9 with e9 _ _
 rw [e9'] at e9
 injection e9 with e9
 injection e9 with e9 _
 rw [e9]
 exact hF9
def Sent1 (w w' : World) (sv : Value) (p : Pure.Pkt) : Prop :=
 ∃ q r c A' c', sv = .slice (some ⟨q, r, none⟩) 1 c ∧ w.heap.size ≤ q ∧ w'.cell? ⟨q, r, none⟩ = some (.int .i64 p.code) ∧ w'.cell? ⟨q, r + 1, none⟩ = some (.int .i64 p.id) ∧ w'.cell? ⟨q, r + 2, none⟩ = some (.slice A' p.data.length c') ∧ Row w' (fun b => w.heap.size ≤ b ∧ b < w'.heap.size) 1 (.slice A' p.data.length c') p.data.length (u8s p.data)
theorem y57 {w w' : World} {sv : Value} {ps : List (Value × Pure.Pkt)} {p : Pure.Pkt} (h : PRow w' (fun b => w.heap.size ≤ b ∧ b < w'.heap.size) sv ps) (e : ps.map Prod.snd = [p]) : Sent1 w w' sv p := by
 obtain ⟨v, rfl⟩ := yah e
 obtain ⟨_, _, X, c, rfl, _⟩ := h.out
 obtain ⟨q, r, A', c', rfl, rfl, h1, h2, h3, h4⟩ := yan h
 exact ⟨q, r, c, A', c', rfl, h.place.1, h1, h2, h3, h4⟩
theorem y5r {w w' : World} {sv : Value} {ps : List (Value × Pure.Pkt)} (h : PRow w' (fun b => w.heap.size ≤ b ∧ b < w'.heap.size) sv ps) (e : ps.map Prod.snd = []) : ∃ A c, sv = .slice A 0 c := by
 have : ps = [] := by simpa using e
 subst this
 obtain ⟨_, _, X, c, rfl, _⟩ := h.out
 exact ⟨X, c, rfl⟩
theorem y0g.two {g mb : Nat} {Vm Vo : Value} {lm lo : List Pure.Pkt} (h : y0g w0 w g mb 0 Vm Vo lm lo gx gy X Y) : LTwo w0 w gx gy X Y := by
 obtain ⟨c, Rm, Ro, Fm, Fo, h⟩ := h
 exact ⟨c, Rm, Ro, h.env, h.bel, h.me, h.ot, h.cgx, h.cmx, h.cgy, h.cmy, h.crm, h.cro, h.new⟩
end
theorem y4c (x : Nat) (hx : x < 2 ^ 64) : IntKind.i64.wrap (x : Int) % 2 = ((x % 2 : Nat) : Int) := by
 unfold IntKind.wrap
 have h1 : IntKind.i64.bits = 64 := rfl
 have h2 : IntKind.i64.signed = true := rfl
 rw [h1, h2]
 have h3 : ((x : Int) % (2 ^ 64 : Int)) = (x : Int) := Int.emod_eq_of_lt (by omega) (by omega)
 dsimp only
 rw [h3]
 split
 ·show ((x : Int) - 18446744073709551616) % 2 = _
  omega
 ·omega
theorem y8y (n : Int) : bits .or .i64 n 1 % 2 = 1 := by
 have key : (BitVec.ofInt 64 n ||| BitVec.ofInt 64 1).toNat % 2 = 1 := by
  rw [BitVec.toNat_or]
  have h1 : (BitVec.ofInt 64 1).toNat = 1 := by decide
  rw [h1]
  simp
 have hlt := (BitVec.ofInt 64 n ||| BitVec.ofInt 64 1).isLt
 show IntKind.i64.wrap ((BitVec.ofInt 64 n ||| BitVec.ofInt 64 1).toNat : Nat) % 2 = 1
 rw [y4c _ hlt, key]
 rfl
theorem y4i (n : Int) : bits .andNot .i64 n 1 % 2 = 0 := by
 have key : (BitVec.ofInt 64 n &&& ~~~ BitVec.ofInt 64 1).toNat % 2 = 0 := by
  rw [BitVec.toNat_and]
  have h1 : (~~~ BitVec.ofInt 64 1).toNat = 18446744073709551614 := by decide
  rw [h1]
  have := Nat.testBit_and (BitVec.ofInt 64 n).toNat 18446744073709551614 0
  simp only [Nat.testBit_zero] at this
  have h2 : (decide (18446744073709551614 % 2 = 1)) = false := by decide
  rw [h2, Bool.and_false, decide_eq_false_iff_not] at this
  omega
 have hlt := (BitVec.ofInt 64 n &&& ~~~ BitVec.ofInt 64 1).isLt
 show IntKind.i64.wrap ((BitVec.ofInt 64 n &&& ~~~ BitVec.ofInt 64 1).toNat : Nat) % 2 = 0
 rw [y4c _ hlt, key]
 rfl
theorem y1m {P : Program} {ops : Array Oper} {rest : List Oper} {o : Oper} {a : Act} {w : World} {Q : Exit → Act → World → Prop} (hg : o.guard = none) (d : Option Tmp) (hd : o.dst = d)
  (f : FuncId) (args : Array Value) (hrun : (execOp a.eval o).run P w = .ok (.enter f args) w) {Φ : Ending → World → Prop} (hc : Calls P f args w Φ)
  (h : ∀ e w', Φ e w' → ∃ v, e = .returned v ∧ wpList P ops Q rest (a.put d v) w') : wpList P ops Q (o :: rest) a w := by
 subst hd
 refine wpList_plain hg fun K hK => ?_
 unfold Oper.wp
 rw [hrun, Oper.upon_enter]
 refine hc.mono fun e w'' hh => ?_
 obtain ⟨v, rfl, h2⟩ := h e w'' hh
 exact hK _ _ h2
end Go.Proofs.YtmgicbckgpdkcaaGreatDoor
