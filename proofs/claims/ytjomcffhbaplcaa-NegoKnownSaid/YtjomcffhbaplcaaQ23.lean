/- What follows of chapter 13's words: how the talks of the statements go. -/
import Derived.Test.YtjomcffhbaplcaaQ7
import Derived.Test.YtjomcffhbaplcaaQ18
import Derived.Test.YtjomcffhbaplcaaQ14
import Derived.Test.YtjomcffhbaplcaaQ22
namespace Go.Proofs.Ytjomcffhbaplcaa
namespace Pure
/-- Options that a request may hold. -/
structure Fine (l : List Opt) : Prop where
  len : l.length ≤ 32
  odd : ∀ o ∈ l, ¬ Opt.odd o
theorem fine_of {l : List Opt} (h : (options l).1 = 0) : Fine l := ⟨(options_back h).2.1, (options_back h).2.2⟩
theorem fine_options {l : List Opt} (h : Fine l) : (options l).1 = 0 := by rw [options_ok (by have := h.len; omega) h.odd]
theorem fine_split {l : List Opt} (h : Fine l) : split (options l).2 = (0, l) := (options_back (fine_options h)).1
theorem fine_nil : Fine [] := ⟨by simp, by simp⟩
theorem fine_filter {l : List Opt} (h : Fine l) (p : Opt → Bool) : Fine (l.filter p) := ⟨Nat.le_trans (List.length_filter_le _ _) h.len, fun o ho => h.odd o (List.mem_filter.1 ho).1⟩
/-- How far one of two is whose rules let all pass: it asks; it has heard what the other one asks; it is Opened. -/
def stage (t u : Nat) (ask other : List Opt) (p : Nat) : Neg :=
  if p = 0 then begun allRules ask t u
  else if p = 1 then { begun allRules ask t u with m := ⟨8, t - 1, u, t, u⟩, theirs := other }
  else { begun allRules ask t u with m := ⟨9, t, 0, t, u⟩, theirs := other, waits := false, acked := ask }
theorem stage_first {t u : Nat} {a b : List Opt} (ht : 1 ≤ t) (hb : Fine b) (hd : Apart b) : (stage t u a b 0).input ⟨1, 1, (options b).2⟩ = (stage t u a b 1, sends [⟨2, 1, (options b).2⟩]) := by
  have hd0 : decide (t ≤ (begun allRules a t u).naks) = false := decide_eq_false (by show ¬ t ≤ 0; omega)
  have h := hear_req (n := begun allRules a t u) (i := 1) rfl (fine_split hb) (by rw [hd0]; exact judge_all hd hb.odd false)
  exact h
theorem stage_second {t u : Nat} {a b : List Opt} (ha : Fine a) : (stage t u a b 1).input ⟨2, 1, (options a).2⟩ = (stage t u a b 2, ⟨[], true, false, false, false⟩) := by
  have h := hear_ack8 (n := stage t u a b 1) (c := t - 1) (l := u) (t := t) (u := u) rfl rfl
  have e : split (stage t u a b 1).ours = (0, a) := fine_split ha
  rw [e] at h
  exact h
theorem stage_opened (t u : Nat) (a b : List Opt) : (stage t u a b 2).m.state = 9 ∧ (stage t u a b 2).mine = a ∧ (stage t u a b 2).given = b := ⟨rfl, rfl, rfl⟩
theorem stage_start (t u : Nat) (a b : List Opt) : ((newNeg allRules a t u).act 0).2 = mute ∧ ((newNeg allRules a t u).act 0).1.act 2 = (stage t u a b 0, sends [⟨1, 1, (options a).2⟩]) := ⟨rfl, rfl⟩
/-- The packets that wait for one of two, by how far both are. -/
def queue (a b : List Opt) (p other : Nat) : List Pkt := (if p = 0 then [⟨1, 1, (options b).2⟩] else []) ++ (if 1 ≤ other ∧ p < 2 then [⟨2, 1, (options a).2⟩] else [])
theorem queue_step (a b : List Opt) (p q : Nat) (hp : p ≤ 2) (hq : q ≤ 2) (hx : p ≠ 0 ∨ q < 2) (h : Pkt) (t : List Pkt) (e : queue a b p q = h :: t) :
    (h = ⟨1, 1, (options b).2⟩ ∧ p = 0 ∧ queue a b 1 q = t ∧ queue b a q 1 = queue b a q 0 ++ [⟨2, 1, (options b).2⟩]) ∨ (h = ⟨2, 1, (options a).2⟩ ∧ p = 1 ∧ 1 ≤ q ∧ queue a b 2 q = t ∧ queue b a q 2 = queue b a q 1) := by
  obtain rfl | rfl | rfl : p = 0 ∨ p = 1 ∨ p = 2 := by omega
  all_goals (obtain rfl | rfl | rfl : q = 0 ∨ q = 1 ∨ q = 2 := by omega)
  all_goals (simp [queue] at e hx ⊢)
  all_goals (try (obtain ⟨rfl, rfl⟩ := e; simp))
/-- The one that asks what the other one does not know: all six rounds. -/
structure Leaves (ask : List Opt) (ts : List Int) : Prop where
  fine : Fine ask
  apart : Apart ask
/-- x, y: behind Up and Open. -/
def lx0 (ask : List Opt) : Neg := begun allRules ask 10 50
def ly0 (ts : List Int) : Neg := begun (ts.map anyRule) [] 10 50
theorem lx0_hears (ask : List Opt) : (lx0 ask).input ⟨1, 1, []⟩ = ({ lx0 ask with m := ⟨8, 9, 50, 10, 50⟩, theirs := [] }, sends [⟨2, 1, []⟩]) := by
  have h := hear_req (n := lx0 ask) (c := 9) (l := 50) (t := 10) (u := 50) (i := 1) (d := []) (o := []) rfl rfl (by
    rw [show decide (10 ≤ (lx0 ask).naks) = false from rfl]
    exact judge_all List.Pairwise.nil (by simp) false)
  exact h
theorem ly0_knows {ask : List Opt} {ts : List Int} (h : Leaves ask ts) (hall : (ask.filter fun o => !knows ts o) = []) : (ly0 ts).input ⟨1, 1, (options ask).2⟩ = ({ ly0 ts with m := ⟨8, 9, 50, 10, 50⟩, theirs := ask }, sends [⟨2, 1, (options ask).2⟩]) := by
  have h := hear_req (n := ly0 ts) (c := 9) (l := 50) (t := 10) (u := 50) (i := 1) rfl (fine_split h.fine) (by
    rw [show (ly0 ts).rules = ts.map anyRule from rfl, judge_knows ts _ h.apart, if_pos hall])
  exact h
theorem ly0_rejects {ask : List Opt} {ts : List Int} (h : Leaves ask ts) (hall : (ask.filter fun o => !knows ts o) ≠ []) : (ly0 ts).input ⟨1, 1, (options ask).2⟩ = (ly0 ts, sends [⟨4, 1, (options (ask.filter fun o => !knows ts o)).2⟩]) := by
  have h := hear_bad (n := ly0 ts) (c := 9) (l := 50) (t := 10) (u := 50) (i := 1) (k := 4) (a := ask.filter fun o => !knows ts o) rfl (fine_split h.fine) (by
    rw [show (ly0 ts).rules = ts.map anyRule from rfl, judge_knows ts _ h.apart, if_neg hall]) (by decide)
  exact h
theorem all_rules_none : ∀ r ∈ allRules, r.need = false := by
  intro r hr
  rw [allRules_eq] at hr
  obtain ⟨a, _, rfl⟩ := List.mem_map.1 hr
  rfl
/-- Behind the Reject it asks what is known. -/
def lx2 (ask : List Opt) (ts : List Int) : Neg := anew { lx0 ask with m := ⟨8, 9, 50, 10, 50⟩, theirs := [] } (ask.filter (knows ts)) 9 50
theorem lx1_left {ask : List Opt} {ts : List Int} (h : Leaves ask ts) : ({ lx0 ask with m := ⟨8, 9, 50, 10, 50⟩, theirs := [] } : Neg).input ⟨4, 1, (options (ask.filter fun o => !knows ts o)).2⟩ = (lx2 ask ts, sends [⟨1, 2, (options (ask.filter (knows ts))).2⟩]) := by
  have e : left allRules ask (ask.filter fun o => !knows ts o) = ask.filter (knows ts) := left_knows allRules all_rules_none ts ask
  have h := hear_rej8 (n := { lx0 ask with m := ⟨8, 9, 50, 10, 50⟩, theirs := [] }) (c := 9) (l := 50) (t := 10) (u := 50) rfl rfl (fine_split (fine_filter h.fine (fun o => !knows ts o))) (by
    rw [show split ({ lx0 ask with m := ⟨8, 9, 50, 10, 50⟩, theirs := [] } : Neg).ours = (0, ask) from fine_split h.fine, List.all_eq_true]
    intro o ho
    rw [List.any_eq_true]
    exact ⟨o, (List.mem_filter.1 ho).1, by simp⟩)
  rw [show left ({ lx0 ask with m := ⟨8, 9, 50, 10, 50⟩, theirs := [] } : Neg).rules ({ lx0 ask with m := ⟨8, 9, 50, 10, 50⟩, theirs := [] } : Neg).request (ask.filter fun o => !knows ts o) = ask.filter (knows ts) from e] at h
  exact h
theorem ly1_acked (ts : List Int) : (ly0 ts).input ⟨2, 1, []⟩ = ({ ly0 ts with m := ⟨7, 10, 50, 10, 50⟩, waits := false, acked := [] }, mute) := by
  have h := hear_ack6 (n := ly0 ts) (c := 9) (l := 50) (t := 10) (u := 50) rfl rfl
  exact h
theorem ly2_knows {ask : List Opt} {ts : List Int} (h : Leaves ask ts) : ({ ly0 ts with m := ⟨7, 10, 50, 10, 50⟩, waits := false, acked := [] } : Neg).input ⟨1, 2, (options (ask.filter (knows ts))).2⟩ =
    ({ ly0 ts with m := ⟨9, 10, 0, 10, 50⟩, waits := false, acked := [], theirs := ask.filter (knows ts) }, ⟨[⟨2, 2, (options (ask.filter (knows ts))).2⟩], true, false, false, false⟩) := by
  have hap : Apart (ask.filter (knows ts)) := List.Pairwise.filter _ h.apart
  have hno : ((ask.filter (knows ts)).filter fun o => !knows ts o) = [] := by
    rw [List.filter_eq_nil_iff]
    intro o ho
    simp [(List.mem_filter.1 ho).2]
  have h := hear_req7 (n := { ly0 ts with m := ⟨7, 10, 50, 10, 50⟩, waits := false, acked := [] }) (c := 10) (l := 50) (t := 10) (u := 50) (i := 2) rfl (fine_split (fine_filter h.fine _)) (by
    rw [show ({ ly0 ts with m := ⟨7, 10, 50, 10, 50⟩, waits := false, acked := [] } : Neg).rules = ts.map anyRule from rfl, judge_knows ts _ hap, if_pos hno])
  exact h
theorem lx2_acked {ask : List Opt} {ts : List Int} (h : Leaves ask ts) : (lx2 ask ts).input ⟨2, 2, (options (ask.filter (knows ts))).2⟩ = ({ lx2 ask ts with m := ⟨9, 10, 0, 10, 50⟩, waits := false, acked := ask.filter (knows ts) }, ⟨[], true, false, false, false⟩) := by
  have h2 := hear_ack8 (n := lx2 ask ts) (c := 9) (l := 50) (t := 10) (u := 50) rfl rfl
  rw [show split (lx2 ask ts).ours = (0, ask.filter (knows ts)) from fine_split (fine_filter h.fine _)] at h2
  exact h2
/-- The talk of the statements: each in turn, or the one that has something to hear. -/
def talkGo : Nat → Nat → List Pkt → List Pkt → Neg → Neg → Neg × Neg
  | 0, _, _, _, x, y => (x, y)
  | f + 1, k, q0, q1, x, y =>
    match q0, q1 with
    | [], [] => (x, y)
    | p :: t, [] => talkGo f (k + 1) t ((x.input p).2.send) (x.input p).1 y
    | [], p :: t => talkGo f (k + 1) ((y.input p).2.send) t x (y.input p).1
    | p :: t, q :: s => if k % 2 = 0 then talkGo f (k + 1) t (q :: s ++ (x.input p).2.send) (x.input p).1 y else talkGo f (k + 1) (p :: t ++ (y.input q).2.send) s x (y.input q).1
def talk (most : Nat) (x y : Neg) : Neg × Neg :=
  talkGo most 0 ((y.act 0).2.send ++ ((y.act 0).1.act 2).2.send) ((x.act 0).2.send ++ ((x.act 0).1.act 2).2.send) ((x.act 0).1.act 2).1 ((y.act 0).1.act 2).1
theorem talk_begun (most : Nat) (rx ry : List Rule) (a c : List Opt) (t u : Nat) : talk most (newNeg rx a t u) (newNeg ry c t u) = talkGo most 0 [⟨1, 1, (options c).2⟩] [⟨1, 1, (options a).2⟩] (begun rx a t u) (begun ry c t u) := rfl
/-- Opened, with what was agreed. -/
def opened (rules : List Rule) (first ask other : List Opt) (t u id naks : Nat) (ours : List UInt8) : Neg := ⟨rules, first, ask, ⟨9, t, 0, t, u⟩, id, id, naks, false, ask, other, 0, ours⟩
/-- Each takes what the other one asks. -/
theorem talk_pass {rx ry : List Rule} {a c : List Opt} {t u : Nat} (ha : Fine a) (hc : Fine c) (hx : judge rx c (decide (t ≤ 0)) = (2, c)) (hy : judge ry a (decide (t ≤ 0)) = (2, a)) (most : Nat) (hm : 5 ≤ most) :
    talk most (newNeg rx a t u) (newNeg ry c t u) = (opened rx a a c t u 1 0 (options a).2, opened ry c c a t u 1 0 (options c).2) := by
  obtain ⟨f, rfl⟩ : ∃ f, most = f + 5 := ⟨most - 5, by omega⟩
  rw [talk_begun]
  have x1 : (begun rx a t u).input ⟨1, 1, (options c).2⟩ = (⟨rx, a, a, ⟨8, t - 1, u, t, u⟩, 1, 1, 0, true, [], c, 0, (options a).2⟩, sends [⟨2, 1, (options c).2⟩]) := hear_req (n := begun rx a t u) (i := 1) rfl (fine_split hc) hx
  have y1 : (begun ry c t u).input ⟨1, 1, (options a).2⟩ = (⟨ry, c, c, ⟨8, t - 1, u, t, u⟩, 1, 1, 0, true, [], a, 0, (options c).2⟩, sends [⟨2, 1, (options a).2⟩]) := hear_req (n := begun ry c t u) (i := 1) rfl (fine_split ha) hy
  have x2 := hear_ack8 (n := ⟨rx, a, a, ⟨8, t - 1, u, t, u⟩, 1, 1, 0, true, [], c, 0, (options a).2⟩) (c := t - 1) (l := u) (t := t) (u := u) rfl rfl
  have y2 := hear_ack8 (n := ⟨ry, c, c, ⟨8, t - 1, u, t, u⟩, 1, 1, 0, true, [], a, 0, (options c).2⟩) (c := t - 1) (l := u) (t := t) (u := u) rfl rfl
  dsimp only at x2 y2
  rw [fine_split ha] at x2
  rw [fine_split hc] at y2
  have x2 : (⟨rx, a, a, ⟨8, t - 1, u, t, u⟩, 1, 1, 0, true, [], c, 0, (options a).2⟩ : Neg).input ⟨2, 1, (options a).2⟩ = (opened rx a a c t u 1 0 (options a).2, ⟨[], true, false, false, false⟩) := x2
  have y2 : (⟨ry, c, c, ⟨8, t - 1, u, t, u⟩, 1, 1, 0, true, [], a, 0, (options c).2⟩ : Neg).input ⟨2, 1, (options c).2⟩ = (opened ry c c a t u 1 0 (options c).2, ⟨[], true, false, false, false⟩) := y2
  generalize (⟨rx, a, a, ⟨8, t - 1, u, t, u⟩, 1, 1, 0, true, [], c, 0, (options a).2⟩ : Neg) = X1 at x1 x2
  generalize (⟨ry, c, c, ⟨8, t - 1, u, t, u⟩, 1, 1, 0, true, [], a, 0, (options c).2⟩ : Neg) = Y1 at y1 y2
  rw [talkGo, if_pos (by decide), x1]
  dsimp only [sends, mute, List.append_eq, List.cons_append, List.nil_append, List.append_nil]
  rw [talkGo, y1]
  dsimp only [sends, mute, List.append_eq, List.cons_append, List.nil_append, List.append_nil]
  rw [talkGo, if_pos (by decide), x2]
  dsimp only [sends, mute, List.append_eq, List.cons_append, List.nil_append, List.append_nil]
  rw [talkGo, y2]
  dsimp only [sends, mute, List.append_eq, List.cons_append, List.nil_append, List.append_nil]
  cases f <;> rfl
/-- The first one's request is not taken at first: it is told so, and asks what is taken. -/
theorem talk_change {rx ry : List Rule} {a c r b : List Opt} {t u k : Nat} (ht : 2 ≤ t) (ha : Fine a) (hc : Fine c) (hr : Fine r) (hb : Fine b) (hx : judge rx c (decide (t ≤ 0)) = (2, c)) (hy : judge ry a (decide (t ≤ 0)) = (k, r))
    (hk : (k = 3 ∧ b = naked rx a r) ∨ (k = 4 ∧ b = left rx a r ∧ ∀ o ∈ r, o ∈ a)) (hy2 : judge ry b false = (2, b)) (most : Nat) (hm : 7 ≤ most) :
    talk most (newNeg rx a t u) (newNeg ry c t u) = (opened rx a b c t u 2 0 (options b).2, opened ry c c b t u 1 (if k = 3 then 1 else 0) (options c).2) := by
  obtain ⟨f, rfl⟩ : ∃ f, most = f + 7 := ⟨most - 7, by omega⟩
  rw [talk_begun]
  have x1 : (begun rx a t u).input ⟨1, 1, (options c).2⟩ = (⟨rx, a, a, ⟨8, t - 1, u, t, u⟩, 1, 1, 0, true, [], c, 0, (options a).2⟩, sends [⟨2, 1, (options c).2⟩]) := hear_req (n := begun rx a t u) (i := 1) rfl (fine_split hc) hx
  have y1 : (begun ry c t u).input ⟨1, 1, (options a).2⟩ = (⟨ry, c, c, ⟨6, t - 1, u, t, u⟩, 1, 1, if k = 3 then 1 else 0, true, [], [], 0, (options c).2⟩, sends [⟨k, 1, (options r).2⟩]) := hear_bad (n := begun ry c t u) (c := t - 1) (l := u) (t := t) (u := u) (i := 1) rfl (fine_split ha) hy (by omega)
  have x2 : (⟨rx, a, a, ⟨8, t - 1, u, t, u⟩, 1, 1, 0, true, [], c, 0, (options a).2⟩ : Neg).input ⟨k, 1, (options r).2⟩ = (⟨rx, a, b, ⟨8, t - 1, u, t, u⟩, 2, 2, 0, true, [], c, 0, (options b).2⟩, sends [⟨1, 2, (options b).2⟩]) := by
    rcases hk with ⟨rfl, rfl⟩ | ⟨rfl, rfl, hin⟩
    · exact hear_nak8 (n := ⟨rx, a, a, ⟨8, t - 1, u, t, u⟩, 1, 1, 0, true, [], c, 0, (options a).2⟩) (c := t - 1) (l := u) (t := t) (u := u) rfl rfl (fine_split hr)
    · refine hear_rej8 (n := ⟨rx, a, a, ⟨8, t - 1, u, t, u⟩, 1, 1, 0, true, [], c, 0, (options a).2⟩) (c := t - 1) (l := u) (t := t) (u := u) rfl rfl (fine_split hr) ?_
      dsimp only
      rw [fine_split ha, List.all_eq_true]
      intro o ho
      rw [List.any_eq_true]
      exact ⟨o, hin o ho, by simp⟩
  have y2 := hear_ack6 (n := ⟨ry, c, c, ⟨6, t - 1, u, t, u⟩, 1, 1, if k = 3 then 1 else 0, true, [], [], 0, (options c).2⟩) (c := t - 1) (l := u) (t := t) (u := u) rfl rfl
  dsimp only at y2
  rw [fine_split hc] at y2
  have y2 : (⟨ry, c, c, ⟨6, t - 1, u, t, u⟩, 1, 1, if k = 3 then 1 else 0, true, [], [], 0, (options c).2⟩ : Neg).input ⟨2, 1, (options c).2⟩ = (⟨ry, c, c, ⟨7, t, u, t, u⟩, 1, 1, if k = 3 then 1 else 0, false, c, [], 0, (options c).2⟩, mute) := y2
  have y3 : (⟨ry, c, c, ⟨7, t, u, t, u⟩, 1, 1, if k = 3 then 1 else 0, false, c, [], 0, (options c).2⟩ : Neg).input ⟨1, 2, (options b).2⟩ = (opened ry c c b t u 1 (if k = 3 then 1 else 0) (options c).2, ⟨[⟨2, 2, (options b).2⟩], true, false, false, false⟩) := by
    refine hear_req7 (n := ⟨ry, c, c, ⟨7, t, u, t, u⟩, 1, 1, if k = 3 then 1 else 0, false, c, [], 0, (options c).2⟩) (c := t) (l := u) (t := t) (u := u) (i := 2) rfl (fine_split hb) ?_
    dsimp only
    rw [decide_eq_false (show ¬ t ≤ if k = 3 then 1 else 0 by split <;> omega)]
    exact hy2
  have x3 := hear_ack8 (n := ⟨rx, a, b, ⟨8, t - 1, u, t, u⟩, 2, 2, 0, true, [], c, 0, (options b).2⟩) (c := t - 1) (l := u) (t := t) (u := u) rfl rfl
  dsimp only at x3
  rw [fine_split hb] at x3
  have x3 : (⟨rx, a, b, ⟨8, t - 1, u, t, u⟩, 2, 2, 0, true, [], c, 0, (options b).2⟩ : Neg).input ⟨2, 2, (options b).2⟩ = (opened rx a b c t u 2 0 (options b).2, ⟨[], true, false, false, false⟩) := x3
  generalize (⟨rx, a, a, ⟨8, t - 1, u, t, u⟩, 1, 1, 0, true, [], c, 0, (options a).2⟩ : Neg) = X1 at x1 x2
  generalize (⟨rx, a, b, ⟨8, t - 1, u, t, u⟩, 2, 2, 0, true, [], c, 0, (options b).2⟩ : Neg) = X2 at x2 x3
  generalize (⟨ry, c, c, ⟨6, t - 1, u, t, u⟩, 1, 1, if k = 3 then 1 else 0, true, [], [], 0, (options c).2⟩ : Neg) = Y1 at y1 y2
  generalize (⟨ry, c, c, ⟨7, t, u, t, u⟩, 1, 1, if k = 3 then 1 else 0, false, c, [], 0, (options c).2⟩ : Neg) = Y2 at y2 y3
  rw [talkGo, if_pos (by decide), x1]
  dsimp only [sends, mute, List.append_eq, List.cons_append, List.nil_append, List.append_nil]
  rw [talkGo, y1]
  dsimp only [sends, mute, List.append_eq, List.cons_append, List.nil_append, List.append_nil]
  rw [talkGo, if_pos (by decide), x2]
  dsimp only [sends, mute, List.append_eq, List.cons_append, List.nil_append, List.append_nil]
  rw [talkGo, y2]
  dsimp only [sends, mute, List.append_eq, List.cons_append, List.nil_append, List.append_nil]
  rw [talkGo, y3]
  dsimp only [sends, mute, List.append_eq, List.cons_append, List.nil_append, List.append_nil]
  rw [talkGo, x3]
  dsimp only [sends, mute, List.append_eq, List.cons_append, List.nil_append, List.append_nil]
  cases f <;> rfl
end Pure
end Go.Proofs.Ytjomcffhbaplcaa
/- Package nego: a negotiator as it lies; made, own, begin, terminated, returned. -/
namespace Go.Proofs.Ytjomcffhbaplcaa
open Go.RowKit
/-- A negotiator's machine, and who judges for it. -/
structure GM where
  m : Nat
  j : Value
instance : Coe GM Nat := ⟨GM.m⟩
/-- It judges by its own rules. -/
abbrev byRules (g : Nat) : Value := .func (.func 43) #[.pointer (some ⟨g, 0, none⟩)] #[]
/-- What the fields of a negotiator hold. -/
structure NF where
  gm : GM
  rules : Value
  tries : Nat
  first : Value
  request : Value
  aid : Nat
  aopts : Value
  aopen : Bool
  id : Nat
  naks : Nat
  mine : Value
  given : Value
  dropped : Nat
abbrev NF.list (f : NF) : List Value := [.pointer (some ⟨f.gm, 0, none⟩), f.rules, f.gm.j, .int .i64 (f.tries : Int), f.first, f.request, .int .i64 (f.aid : Int), f.aopts, .bool f.aopen, .int .i64 (f.id : Int), .int .i64 (f.naks : Int), f.mine, f.given, .int .i64 (f.dropped : Int)]
/-- The negotiator's block. -/
def NBlk (w : World) (g : Nat) (f : NF) : Prop := Blk w g 83 f.list.toArray
theorem NBlk.cell {w : World} {g : Nat} {f : NF} (h : NBlk w g f) (j : Nat) : w.cell? ⟨g, j, none⟩ = f.list[j]? := by
  have : Blk w g 83 f.list.toArray := h
  rw [this.cell, List.getElem?_toArray]
theorem NBlk.frozen {w : World} {g : Nat} {f : NF} (h : NBlk w g f) (j : Nat) : w.frozen? ⟨g, j, none⟩ = false := Blk.frozen h j
theorem NBlk.keeps {S : Nat → Prop} {w w' : World} {g : Nat} {f : NF} (h : NBlk w g f) (k : Keeps S w w') (hs : ¬ S g) : NBlk w' g f := Blk.keeps h k hs
theorem NBlk.lt {w : World} {g : Nat} {f : NF} (h : NBlk w g f) : g < w.heap.size := Blk.lt h
theorem Keeps.put {a w : World} {g : Nat} (h : Keeps (only g) a w) (i : Nat) (u : Value) : Keeps (only g) a (w.setCell ⟨g, i, none⟩ u) := h.store g i (fun _ => only_self g) u
theorem npkt_info : (Try.prog.info? 51).map (·.size) = some 3 := by kernel_rfl
theorem nmade_any (g : Nat) (f : NF) (w : World) (h : NBlk w g f) : Calls Try.prog 45 #[.pointer (some ⟨g, 0, none⟩)] w fun e w' => e = .returned (.bool true) ∧ w = w' := by
  have c0 : w.cell? ⟨g, 0, none⟩ = some (.pointer (some ⟨f.gm, 0, none⟩)) := h.cell 0
  clear h
  go_enter Try.func45, Try.ntmps45
  go_wp2_with fail
  go_ret
  exact ⟨rfl, rfl⟩
set_option maxHeartbeats 2000000 in
theorem own_as (g : Nat) (f : NF) (code : Int) (A : Option Addr) (n c id' : Nat) (w : World) (h : NBlk w g f) (hid : f.id < 256) (hid' : id' = (f.id + 1) % 256) :
    Calls Try.prog 66 #[.pointer (some ⟨g, 0, none⟩), .int .i64 code, .slice A n c] w fun e w' => e = .returned (.agg #[.int .i64 code, .int .i64 (id' : Int), .slice A n c]) ∧ NBlk w' g { f with id := id' } ∧ Keeps (only g) w w' := by
  have hgl := h.lt
  have HI := Lib.hid npkt_info
  obtain ⟨r, hr⟩ : ∃ r, r = w.heap.size := ⟨_, rfl⟩
  go_enter Try.func66, Try.ntmps66
  go_upto_region 1 with fail
  rw [← hr]
  generalize hw1 : w.alloc _ = w1
  have hk1 : Keeps nobody w w1 := by rw [← hw1]; exact (Keeps.refl _ w).alloc _
  have hB : Blk w1 r 51 #[.int .i64 0, .int .i64 0, .slice none 0 0] := by rw [← hw1, hr]; exact Blk.new w _ _
  have h1 : Blk w1 g 83 f.list.toArray := h.keeps hk1 (fun h => h)
  have h2 := h1.set 9 (.int .i64 (id' : Int))
  have HB2 := Lib.hid (hB.far (p := ⟨g, 9, none⟩) (by show r ≠ g; omega) (.int .i64 (id' : Int)))
  have HK2 := Lib.hid (show Keeps (only g) w (w1.setCell ⟨g, 9, none⟩ (.int .i64 (id' : Int))) from (hk1.mono (fun _ h => h.elim)).put 9 _)
  have c8 : w1.cell? ⟨g, 9, none⟩ = some (.int .i64 (f.id : Int)) := by rw [h1.cell]; rfl
  have f8 := h1.frozen 9
  have e1 : wrap64 ((f.id : Int) + 1) = ((f.id + 1 : Nat) : Int) := by rw [IntWalk.wrap64_in _ (by omega)]; omega
  have e2 : ((f.id + 1 : Nat) : Int).tmod 256 = (id' : Int) := by rw [hid', Int.tmod_eq_emod_of_nonneg (by omega)]; omega
  have e3 : ((f.id : Int) + 1).tmod 256 = (id' : Int) := by rw [hid', Int.tmod_eq_emod_of_nonneg (by omega)]; omega
  have HN := Lib.hid (show NBlk (w1.setCell ⟨g, 9, none⟩ (.int .i64 (id' : Int))) g { f with id := id' } from h2)
  have d8 : (w1.setCell ⟨g, 9, none⟩ (.int .i64 (id' : Int))).cell? ⟨g, 9, none⟩ = some (.int .i64 (id' : Int)) := by rw [HN.out.cell]; rfl
  have HR := Lib.hid hr
  clear hw1 hk1 h h1 h2 hB hr hid'
  go_upto_region 2 with fail
  generalize hw2 : w1.setCell _ _ = w2 at *
  have hB2 := HB2.out
  have o0 : w2.cell? ⟨r, 0, none⟩ = some (.int .i64 0) := by rw [hB2.cell]; rfl
  have o1 : w2.cell? ⟨r, 1, none⟩ = some (.int .i64 0) := by rw [hB2.cell]; rfl
  have o2 : w2.cell? ⟨r, 2, none⟩ = some (.slice none 0 0) := by rw [hB2.cell]; rfl
  have g0 := hB2.frozen 0
  have g1 := hB2.frozen 1
  have g2 := hB2.frozen 2
  have HZ := Lib.hid (((hB2.set 0 (.int .i64 code)).set 1 (.int .i64 (id' : Int))).set 2 (.slice A n c))
  have KS := ((((Keeps.refl (only r) w2).put 0 (.int .i64 code)).put 1 (.int .i64 (id' : Int))).put 2 (.slice A n c))
  have HKS := Lib.hid (show Keeps (only g) w _ from HK2.out.trans' KS (fun i hi hl => by have e : i = r := hi; have := HR.out; omega))
  have HNS := Lib.hid (HN.out.keeps KS (fun e => by have e : g = r := e; have := HR.out; omega))
  clear hw2 hB2 KS c8 f8 e1 e2 e3
  go_wp2_with fail
  refine bodyPost_ret (results_row1 rfl _ _ r 51 _ (0, 0) _ rfl HZ.out Try.underlying51 rfl (by rw [HI.out]; rfl)) rfl ?_
  exact ⟨rfl, HNS.out, HKS.out⟩
set_option maxHeartbeats 2000000 in
theorem begin_any (F : Nat → Prop) (g : Nat) (f : NF) (zs : List (Value × Pure.Opt)) (w : World) (h : NBlk w g f) (hx : ORow w F f.first zs) (hfx : FewOpts zs) :
    Calls Try.prog 44 #[.pointer (some ⟨g, 0, none⟩)] w fun e w' => e = .returned (.tuple #[]) ∧ ∃ u, ∃ qs : List (Value × Pure.Opt), optsOf qs = optsOf zs ∧ ORow w' (fun b => w.heap.size ≤ b) u qs ∧ NBlk w' g { f with request := u, naks := 0 } ∧ Keeps (only g) w w' := by
  have HCP := Lib.hid (copies_any F f.first zs w hx hfx.len hfx.data)
  have H := Lib.hid h
  have hgl := h.lt
  obtain ⟨X, cx, hX, _⟩ := hx.form
  have c3 : w.cell? ⟨g, 4, none⟩ = some f.first := h.cell 4
  rw [hX] at HCP c3
  clear h hx hfx
  go_enter Try.func44, Try.ntmps44
  go_wp2_with fail
  refine HCP.out.mono ?_
  rintro e w1 ⟨u, qs, rfl, hqs, hrd⟩
  obtain ⟨A, c, rfl⟩ := own_form hrd.own
  have hk1 : Keeps nobody w w1 := Keeps.new hrd.below
  have h1 : Blk w1 g 83 f.list.toArray := H.out.keeps hk1 (fun h => h)
  have HQS := Lib.hid hqs
  have c4 : w1.cell? ⟨g, 5, none⟩ = some f.request := by rw [h1.cell]; rfl
  have f4 := h1.frozen 5
  have h2 : Blk (w1.setCell ⟨g, 5, none⟩ (.slice A qs.length c)) g 83 ({ f with request := .slice A qs.length c } : NF).list.toArray := h1.set 5 (.slice A qs.length c)
  have HK2 := Lib.hid (show Keeps (only g) w (w1.setCell ⟨g, 5, none⟩ (.slice A qs.length c)) from (hk1.mono (fun _ h => h.elim)).put 5 _)
  have HR2 := Lib.hid (hrd.row.keeps ((Keeps.refl (only g) w1).put 5 (.slice A qs.length c)) (fun b hb e => by have e : b = g := e; omega))
  have d9 : (w1.setCell ⟨g, 5, none⟩ (.slice A qs.length c)).cell? ⟨g, 10, none⟩ = some (.int .i64 (f.naks : Int)) := by rw [h2.cell]; rfl
  have g9 := h2.frozen 10
  have HN := Lib.hid (show NBlk ((w1.setCell ⟨g, 5, none⟩ (.slice A qs.length c)).setCell ⟨g, 10, none⟩ (.int .i64 0)) g { f with request := .slice A qs.length c, naks := 0 } from h2.set 10 (.int .i64 0))
  have HK3 := Lib.hid (HK2.out.put 10 (.int .i64 0))
  have HR3 := Lib.hid (HR2.out.keeps ((Keeps.refl (only g) (w1.setCell ⟨g, 5, none⟩ (.slice A qs.length c))).put 10 (.int .i64 0)) (fun b hb e => by have e : b = g := e; omega))
  clear hqs hrd hk1 h1 h2 HR2 HK2 c3 HCP H
  go_wp2_with fail
  go_end0
  exact ⟨rfl, _, qs, HQS.out, HR3.out, HN.out, HK3.out⟩
end Go.Proofs.Ytjomcffhbaplcaa
