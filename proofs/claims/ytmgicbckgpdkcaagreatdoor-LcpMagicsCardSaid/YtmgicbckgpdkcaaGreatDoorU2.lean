/- Two links that drew one Magic: all that they say, as values. Nothing of the program. -/
import Derived.Test.YtmgicbckgpdkcaaGreatDoorU1
namespace Go.Proofs.YtmgicbckgpdkcaaGreatDoor
namespace Pure
theorem heard_ok {r : Bool} {c : Conv} (h : c.Ok r) (h1 : 1 ≤ c.ph) (h4 : c.ph ≤ 4) : (y1r c).Ok r := by
 obtain ⟨fu, mg, ph⟩ := c
 obtain ⟨k1, k2, k3, k4, k5, k6⟩ := h
 dsimp only at k1 k2 k3 k4 k5 k6 h1 h4
 obtain rfl | rfl | rfl | rfl : ph = 1 ∨ ph = 2 ∨ ph = 3 ∨ ph = 4 := by omega
 ·exact ⟨(fun h => by cases h), (fun i h => by injection h with h; omega), Nat.zero_le _, (fun h => by cases h), (fun h => by cases h), (fun h => by cases h)⟩
 ·obtain ⟨i, rfl, hi⟩ := k5 rfl
  exact ⟨(fun h => by cases h), (fun j h => by injection h with h; (try dsimp only [midx] at h); omega), Nat.zero_le _, (fun h => by cases h), (fun h => by cases h), (fun h => by cases h)⟩
 ·exact ⟨(fun h => by cases h), (fun i h => by cases h), Nat.zero_le _, (fun h => by cases h), (fun h => by cases h), (fun h => by cases h)⟩
 ·exact ⟨(fun h => by have := (k1 h).2.2; omega), k2, Nat.le_refl 5, (fun h => by cases h), (fun h => by cases h), (fun h => by cases h)⟩
theorem y8g (cx cy : Conv) : 1 ≤ (y0v cx cy).ph ∧ (y0v cx cy).ph ≤ 4 := by
 unfold y0v
 dsimp only
 split
 ·decide
 ·split
  ·split <;> decide
  ·decide
theorem answer_ok {r : Bool} {cx cy : Conv} (h : cy.Ok r) : (y0v cx cy).Ok r := by
 have hp := y8g cx cy
 obtain ⟨k1, k2, k3, k4, k5, k6⟩ := h
 refine ⟨fun hf => ?_, k2, by omega, fun h1 => ?_, fun h2 => ?_, fun h3 => ?_⟩
 ·have hf : cy.full = true := hf
  refine ⟨(k1 hf).1, (k1 hf).2.1, ?_⟩
  unfold y0v
  rw [if_pos hf]
  exact Nat.le_refl 1
 ·unfold y0v at h1 ⊢
  dsimp only at h1 ⊢
  by_cases hf : cy.full = true
  ·exact hf
  ·rw [if_neg hf] at h1
   split at h1
   ·split at h1 <;> cases h1
   ·cases h1
 ·unfold y0v at h2
  dsimp only at h2
  split at h2
  ·cases h2
  ·split at h2
   ·rename_i he
    split at h2
    ·cases h2
    ·rename_i h4
     show ∃ i, cy.mg = some i ∧ i ≤ 3
     cases hm : cy.mg with
     | none => rw [hm] at he; exact absurd he.2 he.1
     | some i =>
      refine ⟨i, rfl, ?_⟩
      have := k2 i hm
      have : i ≠ 4 := fun e => h4 (by rw [hm, e])
      omega
   ·cases h2
 ·unfold y0v at h3
  dsimp only at h3
  split at h3
  ·cases h3
  ·split at h3
   ·split at h3
    ·rename_i h4; exact h4
    ·cases h3
   ·cases h3
def rank (c : Conv) : Nat := (if c.full = true then 0 else match c.mg with | some i => 10 + 10 * i | none => 60) + c.ph
theorem heard_rank {r : Bool} {c : Conv} (h : c.Ok r) (h1 : 1 ≤ c.ph) (h4 : c.ph ≤ 4) : rank c + 1 ≤ rank (y1r c) := by
 obtain ⟨fu, mg, ph⟩ := c
 obtain ⟨k1, k2, k3, k4, k5, k6⟩ := h
 dsimp only at k1 k2 k3 k4 k5 k6 h1 h4
 obtain rfl | rfl | rfl | rfl : ph = 1 ∨ ph = 2 ∨ ph = 3 ∨ ph = 4 := by omega
 ·have hf := k4 rfl
  subst hf
  show 0 + 1 + 1 ≤ 10 + 10 * 0 + 0
  omega
 ·have hf : fu = false := by
   cases fu
   ·rfl
   ·have := (k1 rfl).2.2; omega
  subst hf
  obtain ⟨i, rfl, hi⟩ := k5 rfl
  show 10 + 10 * i + 2 + 1 ≤ 10 + 10 * (i + 1) + 0
  omega
 ·have hf : fu = false := by
   cases fu
   ·rfl
   ·have := (k1 rfl).2.2; omega
  subst hf
  have hmg := k6 rfl
  subst hmg
  show 10 + 10 * 4 + 3 + 1 ≤ 60 + 0
  omega
 ·show (if fu = true then 0 else _) + 4 + 1 ≤ (if fu = true then 0 else _) + 5
  exact Nat.le_refl _
theorem yfp {cx cy : Conv} (h0 : cy.ph = 0) : rank cy + 1 ≤ rank (y0v cx cy) := by
 have := (y8g cx cy).1
 have e : rank (y0v cx cy) = rank cy + (y0v cx cy).ph := by
  unfold rank
  rw [h0]
  show (if cy.full = true then 0 else _) + _ = _
  rfl
 omega
theorem y9n {r : Bool} {c : Conv} (h : c.Ok r) : rank c ≤ 65 := by
 have h5 := h.ph
 unfold rank
 split
 ·omega
 ·cases hm : c.mg with
  | none => show 60 + c.ph ≤ 65; omega
  | some i =>
   have := h.idx i hm
   show 10 + 10 * i + c.ph ≤ 65
   omega
def ownM (a b : Cfg) (m : Nat) (c : Conv) : List Pkt := if 1 ≤ c.ph ∧ c.ph ≤ 4 then [mpkt a b m c] else []
def othM (a b : Cfg) (m : Nat) (c : Conv) : List Pkt := if c.ph = 0 then [mpkt a b m c] else []
def Unlike (cx cy : Conv) : Prop := 4 ≤ cx.ph → 4 ≤ cy.ph → cx.mg = cy.mg → cx.mg = none
def magP (a b : Cfg) (m u u' : Nat) (k : Nat) (q r : List Pkt) (X Y : Lcp) : Prop :=
 ∃ cx cy, cx.Ok (rOf a b m) ∧ cy.Ok (rOf b a m) ∧ Unlike cx cy ∧ k ≤ rank cx + rank cy ∧ q.Perm (ownM a b m cx ++ othM b a m cy) ∧ r.Perm (ownM b a m cy ++ othM a b m cx) ∧ X = y0y a b m u cx cy ∧ Y = y0y b a m u' cy cx
theorem ydi {a b : Cfg} {m u u' k : Nat} {q r : List Pkt} {X Y : Lcp} (h : magP a b m u u' k q r X Y) : magP b a m u' u k r q Y X := by
 obtain ⟨cx, cy, h1, h2, h3, h4, h5, h6, h7, h8⟩ := h
 exact ⟨cy, cx, h2, h1, fun a b e => e.trans (h3 b a e.symm), by omega, h6, h5, h8, h7⟩
theorem perm_parts {p : Pkt} {t A B : List Pkt} (hA : A.length ≤ 1) (hB : B.length ≤ 1) (h : (p :: t).Perm (A ++ B)) : (A = [p] ∧ t.Perm B) ∨ (B = [p] ∧ t.Perm A) := by
 have hm : p ∈ A ++ B := h.mem_iff.1 List.mem_cons_self
 rcases List.mem_append.1 hm with hm | hm
 ·match A, hA, hm with
  | [x], _, hm =>
   rw [List.mem_singleton.1 hm] at h ⊢
   exact .inl ⟨rfl, (List.perm_cons _).1 h⟩
 ·match B, hB, hm with
  | [x], _, hm =>
   rw [List.mem_singleton.1 hm] at h ⊢
   refine .inr ⟨rfl, ?_⟩
   have h2 : (x :: t).Perm (x :: A) := h.trans List.perm_append_comm
   exact (List.perm_cons _).1 h2
theorem y83 (a b : Cfg) (m : Nat) (c : Conv) : (ownM a b m c).length ≤ 1 := by unfold ownM; split <;> simp
theorem y82 (a b : Cfg) (m : Nat) (c : Conv) : (othM a b m c).length ≤ 1 := by unfold othM; split <;> simp
theorem mag_step {a b : Cfg} {m u u' : Nat} (ha : a.fine = true) (hb : b.fine = true) (hs : a.server = !b.server) (h0 : m ≠ 0) (hm : m < 4294967296) {k : Nat} {p : Pkt} {q l : List Pkt} {X Y : Lcp} (h : magP a b m u u' k (p :: q) l X Y) :
  magP a b m u u' (k + 1) q (l ++ (X.input p).2.said.send) (X.input p).1 Y := by
 obtain ⟨cx, cy, h1, h2, h3, h4, h5, h6, rfl, rfl⟩ := h
 rcases perm_parts (y83 _ _ _ _) (y82 _ _ _ _) h5 with ⟨e, ht⟩ | ⟨e, ht⟩
 ·have hph : 1 ≤ cx.ph ∧ cx.ph ≤ 4 := by
   unfold ownM at e
   split at e
   ·assumption
   ·cases e
  have hp : p = mpkt a b m cx := by
   unfold ownM at e
   rw [if_pos hph] at e
   injection e with e _
   exact e.symm
  subst hp
  have hh := mag_heard (u := u) (cy := cy) ha hs h0 hm h1 hph.1 hph.2
  unfold y1q at hh
  injection hh with g1 g2
  rw [g1, g2]
  have hr := heard_rank h1 hph.1 hph.2
  refine ⟨y1r cx, cy, heard_ok h1 hph.1 hph.2, h2, ?_, by omega, ?_, ?_, rfl, ?_⟩
  ·intro a1 a2 a3
   by_cases h4' : cx.ph = 4
   ·have e2 : y1r cx = { cx with ph := 5 } := by
     unfold y1r
     rw [if_neg (by omega), if_neg (by omega), if_neg (by omega)]
    rw [e2] at a3 ⊢
    exact h3 (by omega) a2 a3
   ·exfalso
    unfold y1r at a1
    split at a1
    ·exact absurd a1 (by decide)
    ·split at a1
     ·exact absurd a1 (by show ¬ 4 ≤ 0; decide)
     ·split at a1
      ·exact absurd a1 (by decide)
      ·omega
  ·have e2 : ownM a b m (y1r cx) = [] := by
    unfold ownM
    rw [if_neg]
    unfold y1r
    split
    ·decide
    ·split
     ·show ¬ (1 ≤ 0 ∧ 0 ≤ 4); decide
     ·split
      ·decide
      ·show ¬ (1 ≤ 5 ∧ 5 ≤ 4); decide
   rw [e2]
   exact ht
  ·have e1 : othM a b m cx = [] := by unfold othM; rw [if_neg (by omega)]
   rw [e1, List.append_nil] at h6
   have e2 : (if cx.ph = 4 then ([] : List Pkt) else [mpkt a b m (y1r cx)]) = othM a b m (y1r cx) := by
    unfold othM
    by_cases h4' : cx.ph = 4
    ·rw [if_pos h4']
     have : y1r cx = { cx with ph := 5 } := by
      unfold y1r
      rw [if_neg (by omega), if_neg (by omega), if_neg (by omega)]
     rw [this, if_neg (by show ¬ (5 : Nat) = 0; decide)]
    ·rw [if_neg h4', if_pos]
     unfold y1r
     split
     ·rfl
     ·split
      ·rfl
      ·split
       ·rfl
       ·omega
   rw [e2]
   exact h6.append_right _
  ·exact (mag_still h1 hph.1 hph.2).symm
 ·have hph : cy.ph = 0 := by
   unfold othM at e
   split at e
   ·assumption
   ·cases e
  have hp : p = mpkt b a m cy := by
   unfold othM at e
   rw [if_pos hph] at e
   injection e with e _
   exact e.symm
  subst hp
  have hh := mag_asked (u := u) hb hs h0 hm h1 h2 hph
  unfold y1q at hh
  injection hh with g1 g2
  rw [g1, g2]
  have hr := yfp (cx := cx) hph
  have hp4 := y8g cx cy
  refine ⟨cx, y0v cx cy, h1, answer_ok h2, ?_, by omega, ?_, ?_, rfl, (mag_own hph).symm⟩
  ·intro a1 a2 a3
   have a3 : cx.mg = cy.mg := a3
   apply Classical.byContradiction
   intro hn
   unfold y0v at a2
   dsimp only at a2
   split at a2
   ·exact absurd a2 (by decide)
   ·rw [if_pos ⟨hn, a3⟩] at a2
    split at a2 <;> exact absurd a2 (by decide)
  ·have e2 : othM b a m (y0v cx cy) = [] := by unfold othM; rw [if_neg (by omega)]
   rw [e2, List.append_nil]
   exact ht
  ·have e1 : ownM b a m cy = [] := by unfold ownM; rw [if_neg (by omega)]
   rw [e1, List.nil_append] at h6
   have e2 : ownM b a m (y0v cx cy) = [mpkt b a m (y0v cx cy)] := by unfold ownM; rw [if_pos hp4]
   rw [e2]
   exact (h6.append_right _).trans List.perm_append_comm
theorem ybb (a b : Cfg) (m : Nat) (c : Conv) : (mpkt a b m c).data.length ≤ 1000000 := by
 have f1 := y1d (y4x a b m c)
 have f2 := y1d (y0w (ask_fine a m) fun o => !b.knows o)
 have f3 := y1d (y6m (y15 m (midx c.mg + 1)))
 have f4 := y1d (y6m (y15 m 4))
 unfold mpkt
 split
 ·exact Nat.le_trans f1 (by decide)
 ·split
  ·exact Nat.le_trans f2 (by decide)
  ·split
   ·exact Nat.le_trans f3 (by decide)
   ·split
    ·exact Nat.le_trans f4 (by decide)
    ·exact Nat.le_trans f1 (by decide)
theorem naksM_le {r : Bool} {c : Conv} (h : c.Ok r) : y2n c ≤ 1000 := by
 unfold y2n
 cases hm : c.mg with
 | none => show 4 ≤ 1000; decide
 | some i =>
  have := h.idx i hm
  show (if c.ph = 2 then i + 1 else i) ≤ 1000
  split <;> omega
theorem mag_talks {a b : Cfg} {m : Nat} (ha : a.fine = true) (hb : b.fine = true) (hs : a.server = !b.server) (h0 : m ≠ 0) (hm : m < 4294967296) (u u' : Nat) : Talks 140 (magP a b m u u') := by
 refine ⟨fun h => mag_step ha hb hs h0 hm h, fun h => ?_, fun h => ?_, fun h => ?_, fun h _ => ?_, fun h => ?_⟩
 ·exact ydi (mag_step hb ha (by rw [hs, Bool.not_not]) h0 hm (ydi h))
 ·obtain ⟨cx, cy, h1, h2, h3, h4, h5, h6, rfl, rfl⟩ := h
  exact ⟨⟨naksM_le h2, Nat.zero_le _⟩, naksM_le h1, Nat.zero_le _⟩
 ·obtain ⟨cx, cy, h1, h2, h3, h4, h5, h6, rfl, rfl⟩ := h
  have l1 := h5.length_eq
  have l2 := h6.length_eq
  rw [List.length_append] at l1 l2
  have s1 := y83 a b m cx
  have s2 := y82 b a m cy
  have s3 := y83 b a m cy
  have s4 := y82 a b m cx
  refine ⟨⟨by omega, by omega⟩, fun p hp => ?_, fun p hp => ?_⟩
  ·have hm := h5.mem_iff.1 hp
   unfold ownM othM at hm
   rw [List.mem_append] at hm
   rcases hm with hm | hm <;> split at hm <;> first | (rw [List.mem_singleton.1 hm]; exact ybb _ _ _ _) | cases hm
  ·have hm := h6.mem_iff.1 hp
   unfold ownM othM at hm
   rw [List.mem_append] at hm
   rcases hm with hm | hm <;> split at hm <;> first | (rw [List.mem_singleton.1 hm]; exact ybb _ _ _ _) | cases hm
 ·obtain ⟨cx, cy, h1, h2, h3, h4, h5, h6, rfl, rfl⟩ := h
  have := y9n h1
  have := y9n h2
  omega
 ·obtain ⟨cx, cy, h1, h2, h3, h4, h5, h6, rfl, rfl⟩ := h
  have := y9n h1
  have := y9n h2
  omega
theorem ydm (a b : Cfg) (m : Nat) : y0q a b m ⟨rOf a b m, some 0, 0⟩ = a.ask m := by
 unfold y0q
 cases h : rOf a b m with
 | true => rfl
 | false => exact y85 h
theorem ydl (a b : Cfg) (m u : Nat) : (⟨a, begun a.rules (a.ask m) 4 u⟩ : Lcp) = y0y a b m u ⟨rOf a b m, some 0, 0⟩ ⟨rOf b a m, some 0, 0⟩ := by
 unfold y0y y0m
 rw [ydm]
 unfold begun idM stM y2n midx
 cases h : rOf a b m <;> simp
theorem mag_start (a b : Cfg) (m u u' : Nat) : magP a b m u u' 0 [⟨1, 1, (options (b.ask m)).2⟩] [⟨1, 1, (options (a.ask m)).2⟩] ⟨a, begun a.rules (a.ask m) 4 u⟩ ⟨b, begun b.rules (b.ask m) 4 u'⟩ := by
 have hok : ∀ r : Bool, (⟨r, some 0, 0⟩ : Conv).Ok r := fun r => ⟨fun h => ⟨h, rfl, Nat.zero_le _⟩, (fun i h => by injection h with h; omega), Nat.zero_le _, (fun h => by cases h), (fun h => by cases h), (fun h => by cases h)⟩
 have hp : ∀ a b : Cfg, mpkt a b m ⟨rOf a b m, some 0, 0⟩ = ⟨1, 1, (options (a.ask m)).2⟩ := fun a b => by
  unfold mpkt
  rw [if_pos rfl, ydm]
  unfold idM midx
  cases h : rOf a b m <;> simp
 refine ⟨⟨rOf a b m, some 0, 0⟩, ⟨rOf b a m, some 0, 0⟩, hok _, hok _, fun h => absurd (show 4 ≤ 0 from h) (by decide), Nat.zero_le _, ?_, ?_, ydl a b m u, ydl b a m u'⟩
 ·have e1 : ownM a b m ⟨rOf a b m, some 0, 0⟩ = [] := rfl
  have e2 : othM b a m ⟨rOf b a m, some 0, 0⟩ = [mpkt b a m ⟨rOf b a m, some 0, 0⟩] := rfl
  rw [e1, e2, hp]
  exact List.Perm.refl _
 ·have e1 : ownM b a m ⟨rOf b a m, some 0, 0⟩ = [] := rfl
  have e2 : othM a b m ⟨rOf a b m, some 0, 0⟩ = [mpkt a b m ⟨rOf a b m, some 0, 0⟩] := rfl
  rw [e1, e2, hp]
  exact List.Perm.refl _
theorem mag_done {a b : Cfg} {m u u' k : Nat} {X Y : Lcp} (h0 : m ≠ 0) (hm : m < 4294967296) (h : magP a b m u u' k [] [] X Y) :
  X.n.m.state = 9 ∧ Y.n.m.state = 9 ∧ X.mine = Y.peer ∧ Y.mine = X.peer ∧ (X.mine.magic ≠ Y.mine.magic ∨ X.mine.magic = 0 ∨ Y.mine.magic = 0) := by
 obtain ⟨cx, cy, h1, h2, h3, h4, h5, h6, rfl, rfl⟩ := h
 have l1 := h5.length_eq
 have l2 := h6.length_eq
 rw [List.length_append] at l1 l2
 have n1 : (ownM a b m cx).length = 0 := by simp only [List.length_nil] at l1; omega
 have n2 : (othM a b m cx).length = 0 := by simp only [List.length_nil] at l2; omega
 have n3 : (ownM b a m cy).length = 0 := by simp only [List.length_nil] at l2; omega
 have n4 : (othM b a m cy).length = 0 := by simp only [List.length_nil] at l1; omega
 have key : ∀ (a b : Cfg) (c : Conv), c.ph ≤ 5 → (ownM a b m c).length = 0 → (othM a b m c).length = 0 → c.ph = 5 := fun a b c h k1 k2 => by
  unfold ownM at k1
  unfold othM at k2
  split at k1
  ·cases k1
  ·split at k2
   ·cases k2
   ·omega
 have hx5 := key a b cx h1.ph n1 n2
 have hy5 := key b a cy h2.ph n3 n4
 have st : ∀ (a b : Cfg) (u : Nat) (c d : Conv), c.ph = 5 → d.ph = 5 → (y0y a b m u c d).n.m.state = 9 ∧ (y0y a b m u c d).mine = readVals (y0q a b m c) ∧ (y0y a b m u c d).peer = readVals (y0q b a m d) := fun a b u c d hc hd => by
  have hst : (y0y a b m u c d).n.m.state = 9 := by
   show stM c d = 9
   unfold stM
   rw [if_pos hc, if_pos (by omega)]
  refine ⟨hst, ?_, ?_⟩
  ·unfold Lcp.mine Neg.mine
   rw [if_pos hst]
   show readVals (if c.ph = 5 then y0q a b m c else []) = _
   rw [if_pos hc]
  ·unfold Lcp.peer Neg.given
   rw [if_pos hst]
   show readVals (if 4 ≤ d.ph then y0q b a m d else []) = _
   rw [if_pos (by omega)]
 obtain ⟨s1, s2, s3⟩ := st a b u cx cy hx5 hy5
 obtain ⟨t1, t2, t3⟩ := st b a u' cy cx hy5 hx5
 refine ⟨s1, t1, s2.trans t3.symm, t2.trans s3.symm, ?_⟩
 rw [s2, t2, y6z h0 hm, y6z h0 hm]
 cases hxm : cx.mg with
 | none => exact .inr (.inl rfl)
 | some i =>
  cases hym : cy.mg with
  | none => exact .inr (.inr rfl)
  | some j =>
   refine .inl (fun e => ?_)
   have e : y15 m i = y15 m j := e
   have := y6k h0 hm (by have := h1.idx i hxm; omega) (by have := h2.idx j hym; omega) e
   subst this
   have := h3 (by omega) (by omega) (by rw [hxm, hym])
   rw [hxm] at this
   cases this
end Pure
end Go.Proofs.YtmgicbckgpdkcaaGreatDoor
