/- What follows of chapter 13's words: how the talks of the statements go. -/
import Derived.Test.YteajofcdiankiaaQ9
namespace Go.Proofs.Yteajofcdiankiaa
namespace Pure
/-- Options that a request may hold. -/
structure Fine (l : List Opt) : Prop where
  len : l.length ≤ 32
  odd : ∀ o ∈ l, ¬ Opt.odd o
theorem fine_of {l : List Opt} (h : (options l).1 = 0) : Fine l := ⟨(options_back h).2.1, (options_back h).2.2⟩
theorem fine_options {l : List Opt} (h : Fine l) : (options l).1 = 0 := by rw [options_ok (by have := h.len; omega) h.odd]
theorem fine_split {l : List Opt} (h : Fine l) : split (options l).2 = (0, l) := (options_back (fine_options h)).1
theorem fine_nil : Fine [] := ⟨by simp, by simp⟩
theorem fine_filter {l : List Opt} (h : Fine l) (p : Opt → Bool) : Fine (l.filter p) := ⟨Nat.le_trans (List.length_filter_le _ _) h.len, fun o ho => h.odd o (List.mem_filter.1 ho).1⟩
/-- How far one of two is whose rules let all pass: it asks; it has heard what the other one asks; it is Opened. -/
def stage (t u : Nat) (ask other : List Opt) (p : Nat) : Neg :=
  if p = 0 then begun allRules ask t u
  else if p = 1 then { begun allRules ask t u with m := ⟨8, t - 1, u, t, u⟩, theirs := other }
  else { begun allRules ask t u with m := ⟨9, t, 0, t, u⟩, theirs := other, waits := false, acked := ask }
theorem stage_first {t u : Nat} {a b : List Opt} (ht : 1 ≤ t) (hb : Fine b) (hd : Apart b) : (stage t u a b 0).input ⟨1, 1, (options b).2⟩ = (stage t u a b 1, sends [⟨2, 1, (options b).2⟩]) := by
  have hd0 : decide (t ≤ (begun allRules a t u).naks) = false := decide_eq_false (by show ¬ t ≤ 0; omega)
  have h := hear_req (n := begun allRules a t u) (i := 1) rfl (fine_split hb) (by rw [hd0]; exact judge_all hd hb.odd false)
  exact h
theorem stage_second {t u : Nat} {a b : List Opt} (ha : Fine a) : (stage t u a b 1).input ⟨2, 1, (options a).2⟩ = (stage t u a b 2, ⟨[], true, false, false, false⟩) := by
  have h := hear_ack8 (n := stage t u a b 1) (c := t - 1) (l := u) (t := t) (u := u) rfl rfl
  have e : split (stage t u a b 1).ours = (0, a) := fine_split ha
  rw [e] at h
  exact h
theorem stage_opened (t u : Nat) (a b : List Opt) : (stage t u a b 2).m.state = 9 ∧ (stage t u a b 2).mine = a ∧ (stage t u a b 2).given = b := ⟨rfl, rfl, rfl⟩
theorem stage_start (t u : Nat) (a b : List Opt) : ((newNeg allRules a t u).act 0).2 = mute ∧ ((newNeg allRules a t u).act 0).1.act 2 = (stage t u a b 0, sends [⟨1, 1, (options a).2⟩]) := ⟨rfl, rfl⟩
/-- The packets that wait for one of two, by how far both are. -/
def queue (a b : List Opt) (p other : Nat) : List Pkt := (if p = 0 then [⟨1, 1, (options b).2⟩] else []) ++ (if 1 ≤ other ∧ p < 2 then [⟨2, 1, (options a).2⟩] else [])
theorem queue_step (a b : List Opt) (p q : Nat) (hp : p ≤ 2) (hq : q ≤ 2) (hx : p ≠ 0 ∨ q < 2) (h : Pkt) (t : List Pkt) (e : queue a b p q = h :: t) :
    (h = ⟨1, 1, (options b).2⟩ ∧ p = 0 ∧ queue a b 1 q = t ∧ queue b a q 1 = queue b a q 0 ++ [⟨2, 1, (options b).2⟩]) ∨ (h = ⟨2, 1, (options a).2⟩ ∧ p = 1 ∧ 1 ≤ q ∧ queue a b 2 q = t ∧ queue b a q 2 = queue b a q 1) := by
  obtain rfl | rfl | rfl : p = 0 ∨ p = 1 ∨ p = 2 := by omega
  all_goals (obtain rfl | rfl | rfl : q = 0 ∨ q = 1 ∨ q = 2 := by omega)
  all_goals (simp [queue] at e hx ⊢)
  all_goals (try (obtain ⟨rfl, rfl⟩ := e; simp))
/-- The one that asks what the other one does not know: all six rounds. -/
structure Leaves (ask : List Opt) (ts : List Int) : Prop where
  fine : Fine ask
  apart : Apart ask
/-- x, y: behind Up and Open. -/
def lx0 (ask : List Opt) : Neg := begun allRules ask 10 50
def ly0 (ts : List Int) : Neg := begun (ts.map anyRule) [] 10 50
theorem lx0_hears (ask : List Opt) : (lx0 ask).input ⟨1, 1, []⟩ = ({ lx0 ask with m := ⟨8, 9, 50, 10, 50⟩, theirs := [] }, sends [⟨2, 1, []⟩]) := by
  have h := hear_req (n := lx0 ask) (c := 9) (l := 50) (t := 10) (u := 50) (i := 1) (d := []) (o := []) rfl rfl (by
    rw [show decide (10 ≤ (lx0 ask).naks) = false from rfl]
    exact judge_all List.Pairwise.nil (by simp) false)
  exact h
theorem ly0_knows {ask : List Opt} {ts : List Int} (h : Leaves ask ts) (hall : (ask.filter fun o => !knows ts o) = []) : (ly0 ts).input ⟨1, 1, (options ask).2⟩ = ({ ly0 ts with m := ⟨8, 9, 50, 10, 50⟩, theirs := ask }, sends [⟨2, 1, (options ask).2⟩]) := by
  have h := hear_req (n := ly0 ts) (c := 9) (l := 50) (t := 10) (u := 50) (i := 1) rfl (fine_split h.fine) (by
    rw [show (ly0 ts).rules = ts.map anyRule from rfl, judge_knows ts _ h.apart, if_pos hall])
  exact h
theorem ly0_rejects {ask : List Opt} {ts : List Int} (h : Leaves ask ts) (hall : (ask.filter fun o => !knows ts o) ≠ []) : (ly0 ts).input ⟨1, 1, (options ask).2⟩ = (ly0 ts, sends [⟨4, 1, (options (ask.filter fun o => !knows ts o)).2⟩]) := by
  have h := hear_bad (n := ly0 ts) (c := 9) (l := 50) (t := 10) (u := 50) (i := 1) (k := 4) (a := ask.filter fun o => !knows ts o) rfl (fine_split h.fine) (by
    rw [show (ly0 ts).rules = ts.map anyRule from rfl, judge_knows ts _ h.apart, if_neg hall]) (by decide)
  exact h
theorem all_rules_none : ∀ r ∈ allRules, r.need = false := by
  intro r hr
  rw [allRules_eq] at hr
  obtain ⟨a, _, rfl⟩ := List.mem_map.1 hr
  rfl
/-- Behind the Reject it asks what is known. -/
def lx2 (ask : List Opt) (ts : List Int) : Neg := anew { lx0 ask with m := ⟨8, 9, 50, 10, 50⟩, theirs := [] } (ask.filter (knows ts)) 9 50
theorem lx1_left {ask : List Opt} {ts : List Int} (h : Leaves ask ts) : ({ lx0 ask with m := ⟨8, 9, 50, 10, 50⟩, theirs := [] } : Neg).input ⟨4, 1, (options (ask.filter fun o => !knows ts o)).2⟩ = (lx2 ask ts, sends [⟨1, 2, (options (ask.filter (knows ts))).2⟩]) := by
  have e : left allRules ask (ask.filter fun o => !knows ts o) = ask.filter (knows ts) := left_knows allRules all_rules_none ts ask
  have h := hear_rej8 (n := { lx0 ask with m := ⟨8, 9, 50, 10, 50⟩, theirs := [] }) (c := 9) (l := 50) (t := 10) (u := 50) rfl rfl (fine_split (fine_filter h.fine (fun o => !knows ts o))) (by
    rw [show split ({ lx0 ask with m := ⟨8, 9, 50, 10, 50⟩, theirs := [] } : Neg).ours = (0, ask) from fine_split h.fine, List.all_eq_true]
    intro o ho
    rw [List.any_eq_true]
    exact ⟨o, (List.mem_filter.1 ho).1, by simp⟩)
  rw [show left ({ lx0 ask with m := ⟨8, 9, 50, 10, 50⟩, theirs := [] } : Neg).rules ({ lx0 ask with m := ⟨8, 9, 50, 10, 50⟩, theirs := [] } : Neg).request (ask.filter fun o => !knows ts o) = ask.filter (knows ts) from e] at h
  exact h
theorem ly1_acked (ts : List Int) : (ly0 ts).input ⟨2, 1, []⟩ = ({ ly0 ts with m := ⟨7, 10, 50, 10, 50⟩, waits := false, acked := [] }, mute) := by
  have h := hear_ack6 (n := ly0 ts) (c := 9) (l := 50) (t := 10) (u := 50) rfl rfl
  exact h
theorem ly2_knows {ask : List Opt} {ts : List Int} (h : Leaves ask ts) : ({ ly0 ts with m := ⟨7, 10, 50, 10, 50⟩, waits := false, acked := [] } : Neg).input ⟨1, 2, (options (ask.filter (knows ts))).2⟩ =
    ({ ly0 ts with m := ⟨9, 10, 0, 10, 50⟩, waits := false, acked := [], theirs := ask.filter (knows ts) }, ⟨[⟨2, 2, (options (ask.filter (knows ts))).2⟩], true, false, false, false⟩) := by
  have hap : Apart (ask.filter (knows ts)) := List.Pairwise.filter _ h.apart
  have hno : ((ask.filter (knows ts)).filter fun o => !knows ts o) = [] := by
    rw [List.filter_eq_nil_iff]
    intro o ho
    simp [(List.mem_filter.1 ho).2]
  have h := hear_req7 (n := { ly0 ts with m := ⟨7, 10, 50, 10, 50⟩, waits := false, acked := [] }) (c := 10) (l := 50) (t := 10) (u := 50) (i := 2) rfl (fine_split (fine_filter h.fine _)) (by
    rw [show ({ ly0 ts with m := ⟨7, 10, 50, 10, 50⟩, waits := false, acked := [] } : Neg).rules = ts.map anyRule from rfl, judge_knows ts _ hap, if_pos hno])
  exact h
theorem lx2_acked {ask : List Opt} {ts : List Int} (h : Leaves ask ts) : (lx2 ask ts).input ⟨2, 2, (options (ask.filter (knows ts))).2⟩ = ({ lx2 ask ts with m := ⟨9, 10, 0, 10, 50⟩, waits := false, acked := ask.filter (knows ts) }, ⟨[], true, false, false, false⟩) := by
  have h2 := hear_ack8 (n := lx2 ask ts) (c := 9) (l := 50) (t := 10) (u := 50) rfl rfl
  rw [show split (lx2 ask ts).ours = (0, ask.filter (knows ts)) from fine_split (fine_filter h.fine _)] at h2
  exact h2
/-- The talk of the statements: each in turn, or the one that has something to hear. -/
def talkGo : Nat → Nat → List Pkt → List Pkt → Neg → Neg → Neg × Neg
  | 0, _, _, _, x, y => (x, y)
  | f + 1, k, q0, q1, x, y =>
    match q0, q1 with
    | [], [] => (x, y)
    | p :: t, [] => talkGo f (k + 1) t ((x.input p).2.send) (x.input p).1 y
    | [], p :: t => talkGo f (k + 1) ((y.input p).2.send) t x (y.input p).1
    | p :: t, q :: s => if k % 2 = 0 then talkGo f (k + 1) t (q :: s ++ (x.input p).2.send) (x.input p).1 y else talkGo f (k + 1) (p :: t ++ (y.input q).2.send) s x (y.input q).1
def talk (most : Nat) (x y : Neg) : Neg × Neg :=
  talkGo most 0 ((y.act 0).2.send ++ ((y.act 0).1.act 2).2.send) ((x.act 0).2.send ++ ((x.act 0).1.act 2).2.send) ((x.act 0).1.act 2).1 ((y.act 0).1.act 2).1
theorem talk_begun (most : Nat) (rx ry : List Rule) (a c : List Opt) (t u : Nat) : talk most (newNeg rx a t u) (newNeg ry c t u) = talkGo most 0 [⟨1, 1, (options c).2⟩] [⟨1, 1, (options a).2⟩] (begun rx a t u) (begun ry c t u) := rfl
/-- Opened, with what was agreed. -/
def opened (rules : List Rule) (first ask other : List Opt) (t u id naks : Nat) (ours : List UInt8) : Neg := ⟨rules, first, ask, ⟨9, t, 0, t, u⟩, id, id, naks, false, ask, other, 0, ours⟩
/-- Each takes what the other one asks. -/
theorem talk_pass {rx ry : List Rule} {a c : List Opt} {t u : Nat} (ha : Fine a) (hc : Fine c) (hx : judge rx c (decide (t ≤ 0)) = (2, c)) (hy : judge ry a (decide (t ≤ 0)) = (2, a)) (most : Nat) (hm : 5 ≤ most) :
    talk most (newNeg rx a t u) (newNeg ry c t u) = (opened rx a a c t u 1 0 (options a).2, opened ry c c a t u 1 0 (options c).2) := by
  obtain ⟨f, rfl⟩ : ∃ f, most = f + 5 := ⟨most - 5, by omega⟩
  rw [talk_begun]
  have x1 : (begun rx a t u).input ⟨1, 1, (options c).2⟩ = (⟨rx, a, a, ⟨8, t - 1, u, t, u⟩, 1, 1, 0, true, [], c, 0, (options a).2⟩, sends [⟨2, 1, (options c).2⟩]) := hear_req (n := begun rx a t u) (i := 1) rfl (fine_split hc) hx
  have y1 : (begun ry c t u).input ⟨1, 1, (options a).2⟩ = (⟨ry, c, c, ⟨8, t - 1, u, t, u⟩, 1, 1, 0, true, [], a, 0, (options c).2⟩, sends [⟨2, 1, (options a).2⟩]) := hear_req (n := begun ry c t u) (i := 1) rfl (fine_split ha) hy
  have x2 := hear_ack8 (n := ⟨rx, a, a, ⟨8, t - 1, u, t, u⟩, 1, 1, 0, true, [], c, 0, (options a).2⟩) (c := t - 1) (l := u) (t := t) (u := u) rfl rfl
  have y2 := hear_ack8 (n := ⟨ry, c, c, ⟨8, t - 1, u, t, u⟩, 1, 1, 0, true, [], a, 0, (options c).2⟩) (c := t - 1) (l := u) (t := t) (u := u) rfl rfl
  dsimp only at x2 y2
  rw [fine_split ha] at x2
  rw [fine_split hc] at y2
  have x2 : (⟨rx, a, a, ⟨8, t - 1, u, t, u⟩, 1, 1, 0, true, [], c, 0, (options a).2⟩ : Neg).input ⟨2, 1, (options a).2⟩ = (opened rx a a c t u 1 0 (options a).2, ⟨[], true, false, false, false⟩) := x2
  have y2 : (⟨ry, c, c, ⟨8, t - 1, u, t, u⟩, 1, 1, 0, true, [], a, 0, (options c).2⟩ : Neg).input ⟨2, 1, (options c).2⟩ = (opened ry c c a t u 1 0 (options c).2, ⟨[], true, false, false, false⟩) := y2
  generalize (⟨rx, a, a, ⟨8, t - 1, u, t, u⟩, 1, 1, 0, true, [], c, 0, (options a).2⟩ : Neg) = X1 at x1 x2
  generalize (⟨ry, c, c, ⟨8, t - 1, u, t, u⟩, 1, 1, 0, true, [], a, 0, (options c).2⟩ : Neg) = Y1 at y1 y2
  rw [talkGo, if_pos (by decide), x1]
  dsimp only [sends, mute, List.append_eq, List.cons_append, List.nil_append, List.append_nil]
  rw [talkGo, y1]
  dsimp only [sends, mute, List.append_eq, List.cons_append, List.nil_append, List.append_nil]
  rw [talkGo, if_pos (by decide), x2]
  dsimp only [sends, mute, List.append_eq, List.cons_append, List.nil_append, List.append_nil]
  rw [talkGo, y2]
  dsimp only [sends, mute, List.append_eq, List.cons_append, List.nil_append, List.append_nil]
  cases f <;> rfl
/-- The first one's request is not taken at first: it is told so, and asks what is taken. -/
theorem talk_change {rx ry : List Rule} {a c r b : List Opt} {t u k : Nat} (ht : 2 ≤ t) (ha : Fine a) (hc : Fine c) (hr : Fine r) (hb : Fine b) (hx : judge rx c (decide (t ≤ 0)) = (2, c)) (hy : judge ry a (decide (t ≤ 0)) = (k, r))
    (hk : (k = 3 ∧ b = naked rx a r) ∨ (k = 4 ∧ b = left rx a r ∧ ∀ o ∈ r, o ∈ a)) (hy2 : judge ry b false = (2, b)) (most : Nat) (hm : 7 ≤ most) :
    talk most (newNeg rx a t u) (newNeg ry c t u) = (opened rx a b c t u 2 0 (options b).2, opened ry c c b t u 1 (if k = 3 then 1 else 0) (options c).2) := by
  obtain ⟨f, rfl⟩ : ∃ f, most = f + 7 := ⟨most - 7, by omega⟩
  rw [talk_begun]
  have x1 : (begun rx a t u).input ⟨1, 1, (options c).2⟩ = (⟨rx, a, a, ⟨8, t - 1, u, t, u⟩, 1, 1, 0, true, [], c, 0, (options a).2⟩, sends [⟨2, 1, (options c).2⟩]) := hear_req (n := begun rx a t u) (i := 1) rfl (fine_split hc) hx
  have y1 : (begun ry c t u).input ⟨1, 1, (options a).2⟩ = (⟨ry, c, c, ⟨6, t - 1, u, t, u⟩, 1, 1, if k = 3 then 1 else 0, true, [], [], 0, (options c).2⟩, sends [⟨k, 1, (options r).2⟩]) := hear_bad (n := begun ry c t u) (c := t - 1) (l := u) (t := t) (u := u) (i := 1) rfl (fine_split ha) hy (by omega)
  have x2 : (⟨rx, a, a, ⟨8, t - 1, u, t, u⟩, 1, 1, 0, true, [], c, 0, (options a).2⟩ : Neg).input ⟨k, 1, (options r).2⟩ = (⟨rx, a, b, ⟨8, t - 1, u, t, u⟩, 2, 2, 0, true, [], c, 0, (options b).2⟩, sends [⟨1, 2, (options b).2⟩]) := by
    rcases hk with ⟨rfl, rfl⟩ | ⟨rfl, rfl, hin⟩
    · exact hear_nak8 (n := ⟨rx, a, a, ⟨8, t - 1, u, t, u⟩, 1, 1, 0, true, [], c, 0, (options a).2⟩) (c := t - 1) (l := u) (t := t) (u := u) rfl rfl (fine_split hr)
    · refine hear_rej8 (n := ⟨rx, a, a, ⟨8, t - 1, u, t, u⟩, 1, 1, 0, true, [], c, 0, (options a).2⟩) (c := t - 1) (l := u) (t := t) (u := u) rfl rfl (fine_split hr) ?_
      dsimp only
      rw [fine_split ha, List.all_eq_true]
      intro o ho
      rw [List.any_eq_true]
      exact ⟨o, hin o ho, by simp⟩
  have y2 := hear_ack6 (n := ⟨ry, c, c, ⟨6, t - 1, u, t, u⟩, 1, 1, if k = 3 then 1 else 0, true, [], [], 0, (options c).2⟩) (c := t - 1) (l := u) (t := t) (u := u) rfl rfl
  dsimp only at y2
  rw [fine_split hc] at y2
  have y2 : (⟨ry, c, c, ⟨6, t - 1, u, t, u⟩, 1, 1, if k = 3 then 1 else 0, true, [], [], 0, (options c).2⟩ : Neg).input ⟨2, 1, (options c).2⟩ = (⟨ry, c, c, ⟨7, t, u, t, u⟩, 1, 1, if k = 3 then 1 else 0, false, c, [], 0, (options c).2⟩, mute) := y2
  have y3 : (⟨ry, c, c, ⟨7, t, u, t, u⟩, 1, 1, if k = 3 then 1 else 0, false, c, [], 0, (options c).2⟩ : Neg).input ⟨1, 2, (options b).2⟩ = (opened ry c c b t u 1 (if k = 3 then 1 else 0) (options c).2, ⟨[⟨2, 2, (options b).2⟩], true, false, false, false⟩) := by
    refine hear_req7 (n := ⟨ry, c, c, ⟨7, t, u, t, u⟩, 1, 1, if k = 3 then 1 else 0, false, c, [], 0, (options c).2⟩) (c := t) (l := u) (t := t) (u := u) (i := 2) rfl (fine_split hb) ?_
    dsimp only
    rw [decide_eq_false (show ¬ t ≤ if k = 3 then 1 else 0 by split <;> omega)]
    exact hy2
  have x3 := hear_ack8 (n := ⟨rx, a, b, ⟨8, t - 1, u, t, u⟩, 2, 2, 0, true, [], c, 0, (options b).2⟩) (c := t - 1) (l := u) (t := t) (u := u) rfl rfl
  dsimp only at x3
  rw [fine_split hb] at x3
  have x3 : (⟨rx, a, b, ⟨8, t - 1, u, t, u⟩, 2, 2, 0, true, [], c, 0, (options b).2⟩ : Neg).input ⟨2, 2, (options b).2⟩ = (opened rx a b c t u 2 0 (options b).2, ⟨[], true, false, false, false⟩) := x3
  generalize (⟨rx, a, a, ⟨8, t - 1, u, t, u⟩, 1, 1, 0, true, [], c, 0, (options a).2⟩ : Neg) = X1 at x1 x2
  generalize (⟨rx, a, b, ⟨8, t - 1, u, t, u⟩, 2, 2, 0, true, [], c, 0, (options b).2⟩ : Neg) = X2 at x2 x3
  generalize (⟨ry, c, c, ⟨6, t - 1, u, t, u⟩, 1, 1, if k = 3 then 1 else 0, true, [], [], 0, (options c).2⟩ : Neg) = Y1 at y1 y2
  generalize (⟨ry, c, c, ⟨7, t, u, t, u⟩, 1, 1, if k = 3 then 1 else 0, false, c, [], 0, (options c).2⟩ : Neg) = Y2 at y2 y3
  rw [talkGo, if_pos (by decide), x1]
  dsimp only [sends, mute, List.append_eq, List.cons_append, List.nil_append, List.append_nil]
  rw [talkGo, y1]
  dsimp only [sends, mute, List.append_eq, List.cons_append, List.nil_append, List.append_nil]
  rw [talkGo, if_pos (by decide), x2]
  dsimp only [sends, mute, List.append_eq, List.cons_append, List.nil_append, List.append_nil]
  rw [talkGo, y2]
  dsimp only [sends, mute, List.append_eq, List.cons_append, List.nil_append, List.append_nil]
  rw [talkGo, y3]
  dsimp only [sends, mute, List.append_eq, List.cons_append, List.nil_append, List.append_nil]
  rw [talkGo, x3]
  dsimp only [sends, mute, List.append_eq, List.cons_append, List.nil_append, List.append_nil]
  cases f <;> rfl
end Pure
end Go.Proofs.Yteajofcdiankiaa
