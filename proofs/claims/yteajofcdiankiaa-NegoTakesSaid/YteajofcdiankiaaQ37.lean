/- What follows of chapter 13's words: the ends that the statements ask for. -/
import Derived.Test.YteajofcdiankiaaQ30
namespace Go.Proofs.Yteajofcdiankiaa
namespace Pure
theorem fine_one {b : List UInt8} (h : b.length ≤ 253) : Fine [(1, b)] := ⟨by simp, fun o ho => by
  obtain rfl : o = (1, b) := by simpa using ho
  unfold Opt.odd
  simp
  omega⟩
theorem wide_two (x : Nat) : (wide x 2).length = 2 := wide_length x 2
theorem two_bytes {x : Nat} (h : x < 65536) : bnum (wide x 2) = x := bnum_wide (by simpa using h)
theorem none_needed (lo hi : Nat) : ∀ r ∈ [rangeRule lo hi], r.need = false := by
  intro r hr
  obtain rfl : r = rangeRule lo hi := by simpa using hr
  rfl
/-- Numbers beyond what the other one takes: both are Opened with what it takes. -/
theorem meets (a b lo hi : Nat) (ha : a < 65536) (hb : b < 65536) (h1 : lo ≤ hi) (h2 : hi < 65536) :
    ∃ X Y, talk 60 (newNeg [rangeRule 0 65535] [(1, wide a 2)] 10 50) (newNeg [rangeRule lo hi] [(1, wide b 2)] 10 50) = (X, Y) ∧ X.m.state = 9 ∧ Y.m.state = 9 ∧ X.mine = [(1, wide (min (max a lo) hi) 2)] ∧ Y.mine = [(1, wide b 2)] := by
  have fa : Fine [(1, wide a 2)] := fine_one (by rw [wide_two]; decide)
  have fb : Fine [(1, wide b 2)] := fine_one (by rw [wide_two]; decide)
  have jx : judge [rangeRule 0 65535] [(1, wide b 2)] (decide (10 ≤ 0)) = (2, [(1, wide b 2)]) := by
    rw [judge_range 0 65535 [] (by simp) _ (wide_two b), if_pos (by rw [two_bytes hb]; omega)]
  by_cases hf : lo ≤ a ∧ a ≤ hi
  · have jy : judge [rangeRule lo hi] [(1, wide a 2)] (decide (10 ≤ 0)) = (2, [(1, wide a 2)]) := by
      rw [judge_range lo hi [] (by simp) _ (wide_two a), if_pos (by rw [two_bytes ha]; exact hf)]
    have e : min (max a lo) hi = a := by omega
    rw [e]
    exact ⟨_, _, talk_pass fa fb jx jy 60 (by decide), rfl, rfl, rfl, rfl⟩
  · obtain ⟨c, hc⟩ : ∃ c, c = if a < lo then lo else hi := ⟨_, rfl⟩
    have hcl : lo ≤ c ∧ c ≤ hi := by rw [hc]; split <;> omega
    have hce : min (max a lo) hi = c := by rw [hc]; split <;> omega
    have jy : judge [rangeRule lo hi] [(1, wide a 2)] (decide (10 ≤ 0)) = (3, [(1, wide c 2)]) := by
      rw [judge_range lo hi [] (by simp) _ (wide_two a), two_bytes ha, if_neg hf, if_neg (by decide), ← hc]
    have jy2 : judge [rangeRule lo hi] [(1, wide c 2)] false = (2, [(1, wide c 2)]) := by
      rw [judge_range lo hi [] (by simp) _ (wide_two c), if_pos (by rw [two_bytes (by omega)]; exact hcl)]
    have hn : [((1 : Int), wide c 2)] = naked [rangeRule 0 65535] [(1, wide a 2)] [(1, wide c 2)] := by
      rw [naked_range 0 65535 _ _ (wide_two c) (by rw [two_bytes (by omega)]; omega) (by rw [two_bytes (by omega)]; omega), two_bytes (by omega)]
    have fc : Fine [(1, wide c 2)] := fine_one (by rw [wide_two]; decide)
    rw [hce]
    exact ⟨_, _, talk_change (by decide) fa fb fc fc jx jy (.inl ⟨rfl, hn⟩) jy2 60 (by decide), rfl, rfl, rfl, rfl⟩
/-- What the other one does not know is left out. -/
theorem leaves (ask : List Opt) (ts : List Int) (hf : Fine ask) (hp : Apart ask) :
    ∃ X Y, talk 60 (newNeg allRules ask 10 50) (newNeg (ts.map anyRule) [] 10 50) = (X, Y) ∧ X.m.state = 9 ∧ Y.m.state = 9 ∧ X.mine = ask.filter (knows ts) ∧ Y.given = ask.filter (knows ts) := by
  have jx : judge allRules [] (decide (10 ≤ 0)) = (2, []) := judge_all List.Pairwise.nil (by simp) _
  by_cases hall : (ask.filter fun o => !knows ts o) = []
  · have jy : judge (ts.map anyRule) ask (decide (10 ≤ 0)) = (2, ask) := by rw [judge_knows ts _ hp, if_pos hall]
    have e : ask.filter (knows ts) = ask := by
      rw [List.filter_eq_self]
      intro o ho
      have := List.filter_eq_nil_iff.1 hall o ho
      simpa using this
    rw [e]
    exact ⟨_, _, talk_pass hf fine_nil jx jy 60 (by decide), rfl, rfl, rfl, rfl⟩
  · have jy : judge (ts.map anyRule) ask (decide (10 ≤ 0)) = (4, ask.filter fun o => !knows ts o) := by rw [judge_knows ts _ hp, if_neg hall]
    have hno : ((ask.filter (knows ts)).filter fun o => !knows ts o) = [] := by
      rw [List.filter_eq_nil_iff]
      intro o ho
      simp [(List.mem_filter.1 ho).2]
    have jy2 : judge (ts.map anyRule) (ask.filter (knows ts)) false = (2, ask.filter (knows ts)) := by rw [judge_knows ts _ (List.Pairwise.filter _ hp), if_pos hno]
    exact ⟨_, _, talk_change (by decide) hf fine_nil (fine_filter hf _) (fine_filter hf (knows ts)) jx jy (.inr ⟨rfl, (left_knows allRules all_rules_none ts ask).symm, fun o ho => (List.mem_filter.1 ho).1⟩) jy2 60 (by decide), rfl, rfl, rfl, rfl⟩
/-- The rules of the statements. -/
def fewRules : List Rule := [rangeRule 64 1500, ⟨5, 4, 1, 0, 0, [], false⟩]
theorem few_none : ∀ r ∈ [(⟨5, 4, 1, 0, 0, [], false⟩ : Rule)], r.need = false := by
  intro r hr
  obtain rfl : r = ⟨5, 4, 1, 0, 0, [], false⟩ := by simpa using hr
  rfl
theorem few_nil (rejects : Bool) : judge fewRules [] rejects = (2, []) := judge_pass _ _ _ (by simp) (by
  intro r hr
  rcases List.mem_cons.1 hr with rfl | hr
  · rfl
  · exact few_none r hr)
/-- Too great a number. -/
theorem few_great {b : List UInt8} (h : b.length = 2) (hg : 1500 < bnum b) (rejects : Bool) : judge fewRules [(1, b)] rejects = if rejects = true then (4, [(1, b)]) else (3, [(1, wide 1500 2)]) := by
  unfold fewRules
  rw [judge_range 64 1500 _ few_none _ h, if_neg (by omega), if_neg (show ¬ bnum b < 64 by omega)]
/-- Two that were opened over the few rules. -/
theorem few_opened (t u most : Nat) (hm : 5 ≤ most) : talk most (newNeg fewRules [] t u) (newNeg fewRules [] t u) = (opened fewRules [] [] [] t u 1 0 [], opened fewRules [] [] [] t u 1 0 []) :=
  talk_pass fine_nil fine_nil (few_nil _) (few_nil _) most hm
/-- Two that let all pass are Opened. -/
theorem all_opened {a b : List Opt} (ha : Fine a) (hb : Fine b) (pa : Apart a) (pb : Apart b) (t u : Nat) (most : Nat) (hm : 5 ≤ most) :
    talk most (newNeg allRules a t u) (newNeg allRules b t u) = (opened allRules a a b t u 1 0 (options a).2, opened allRules b b a t u 1 0 (options b).2) :=
  talk_pass ha hb (judge_all pb hb.odd _) (judge_all pa ha.odd _) most hm
/-- One of two closes: how both go on. -/
def endX (a b : List Opt) (m : Mach) (id : Nat) : Neg := ⟨allRules, a, a, m, id, 1, 0, false, a, b, 0, (options a).2⟩
theorem ends_closes (a b : List Opt) : (opened allRules a a b 3 2 1 0 (options a).2).act 3 = (endX a b ⟨4, 2, 2, 3, 2⟩ 2, ⟨[⟨5, 2, []⟩], false, true, false, false⟩) :=
  closes (n := opened allRules a a b 3 2 1 0 (options a).2) (c := 3) (l := 0) (t := 3) (u := 2) rfl
theorem ends_told (a b : List Opt) : (opened allRules b b a 3 2 1 0 (options b).2).input ⟨5, 2, []⟩ = (endX b a ⟨5, 0, 2, 3, 2⟩ 1, ⟨[⟨6, 2, []⟩], false, true, false, false⟩) :=
  hear_end (n := opened allRules b b a 3 2 1 0 (options b).2) (c := 3) (l := 0) (t := 3) (u := 2) rfl
theorem ends_ended (a b : List Opt) : (endX a b ⟨4, 2, 2, 3, 2⟩ 2).input ⟨6, 2, []⟩ = (endX a b ⟨2, 2, 0, 3, 2⟩ 2, ⟨[], false, false, false, true⟩) :=
  hear_ended (n := endX a b ⟨4, 2, 2, 3, 2⟩ 2) (c := 2) (l := 2) (t := 3) (u := 2) rfl
theorem ends_tick (a b : List Opt) : (endX b a ⟨5, 0, 2, 3, 2⟩ 1).tick = (endX b a ⟨5, 0, 1, 3, 2⟩ 1, mute) := rfl
theorem ends_tick2 (a b : List Opt) : (endX b a ⟨5, 0, 1, 3, 2⟩ 1).tick = (endX b a ⟨3, 0, 0, 3, 2⟩ 1, ⟨[], false, false, false, true⟩) := rfl
theorem ends_asked (a b : List Opt) : (endX a b ⟨2, 2, 0, 3, 2⟩ 2).input ⟨1, 200, []⟩ = (endX a b ⟨2, 2, 0, 3, 2⟩ 3, sends [⟨6, 3, []⟩]) := by
  have h1 : judge allRules [] (decide (3 ≤ 0)) = (2, []) := judge_all List.Pairwise.nil (by simp) _
  unfold Neg.input
  rw [if_neg (show ¬ (endX a b ⟨2, 2, 0, 3, 2⟩ 2).m.state ≤ 1 by show ¬ 2 ≤ 1; decide), if_pos rfl, if_neg (show ¬ (split ([] : List UInt8)).1 ≠ 0 by decide)]
  unfold Neg.judged
  rw [show judge (endX a b ⟨2, 2, 0, 3, 2⟩ 2).rules (split ([] : List UInt8)).2 (decide ((endX a b ⟨2, 2, 0, 3, 2⟩ 2).m.tries ≤ (endX a b ⟨2, 2, 0, 3, 2⟩ 2).naks)) = (2, []) from h1]
  rfl
/-- Naked, until there are as many as tries; then rejected. -/
theorem naks_once {n : Neg} {c l t u : Nat} {b : List UInt8} (hm : n.m = ⟨6, c, l, t, u⟩) (hr : n.rules = fewRules) (hb : b.length = 2) (hg : 1500 < bnum b) (i : Nat) :
    n.input ⟨1, i, 1 :: 4 :: b⟩ = if t ≤ n.naks then (n, sends [⟨4, i, 1 :: 4 :: b⟩]) else ({ n with naks := n.naks + 1 }, sends [⟨3, i, 1 :: 4 :: wide 1500 2⟩]) := by
  have hs : split (1 :: 4 :: b) = (0, [(1, b)]) := by
    have := fine_split (fine_one (b := b) (by omega))
    rw [options_ok (by simp) (fine_one (b := b) (by omega)).odd] at this
    have e : joined [((1 : Int), b)] = 1 :: 4 :: b := by
      rw [joined_cons, hb]
      simp [joined]
    rw [e] at this
    exact this
  have ho : ∀ c : List UInt8, c.length = 2 → (options [((1 : Int), c)]).2 = 1 :: 4 :: c := fun c hc => by
    rw [options_ok (by simp) (fine_one (b := c) (by omega)).odd]
    show joined [((1 : Int), c)] = _
    rw [joined_cons, hc]
    simp [joined]
  by_cases ht : t ≤ n.naks
  · rw [if_pos ht]
    have h := hear_bad (i := i) (k := 4) (a := [(1, b)]) hm hs (by rw [hr, few_great hb hg, decide_eq_true ht]; rfl) (by decide)
    rw [ho b hb] at h
    exact h
  · rw [if_neg ht]
    have h := hear_bad (i := i) (k := 3) (a := [(1, wide 1500 2)]) hm hs (by rw [hr, few_great hb hg, decide_eq_false ht]; rfl) (by decide)
    rw [ho _ (wide_two 1500)] at h
    exact h
end Pure
end Go.Proofs.Yteajofcdiankiaa
