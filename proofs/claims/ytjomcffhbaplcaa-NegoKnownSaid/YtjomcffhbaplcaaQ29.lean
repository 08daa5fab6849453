/- What follows of chapter 13's words: the ends that the statements ask for. -/
import Derived.Test.YtjomcffhbaplcaaQ23
import Derived.Test.YtjomcffhbaplcaaQ28
namespace Go.Proofs.Ytjomcffhbaplcaa
namespace Pure
theorem fine_one {b : List UInt8} (h : b.length ≤ 253) : Fine [(1, b)] := ⟨by simp, fun o ho => by
  obtain rfl : o = (1, b) := by simpa using ho
  unfold Opt.odd
  simp
  omega⟩
theorem wide_two (x : Nat) : (wide x 2).length = 2 := wide_length x 2
theorem two_bytes {x : Nat} (h : x < 65536) : bnum (wide x 2) = x := bnum_wide (by simpa using h)
theorem none_needed (lo hi : Nat) : ∀ r ∈ [rangeRule lo hi], r.need = false := by
  intro r hr
  obtain rfl : r = rangeRule lo hi := by simpa using hr
  rfl
/-- Numbers beyond what the other one takes: both are Opened with what it takes. -/
theorem meets (a b lo hi : Nat) (ha : a < 65536) (hb : b < 65536) (h1 : lo ≤ hi) (h2 : hi < 65536) :
    ∃ X Y, talk 60 (newNeg [rangeRule 0 65535] [(1, wide a 2)] 10 50) (newNeg [rangeRule lo hi] [(1, wide b 2)] 10 50) = (X, Y) ∧ X.m.state = 9 ∧ Y.m.state = 9 ∧ X.mine = [(1, wide (min (max a lo) hi) 2)] ∧ Y.mine = [(1, wide b 2)] := by
  have fa : Fine [(1, wide a 2)] := fine_one (by rw [wide_two]; decide)
  have fb : Fine [(1, wide b 2)] := fine_one (by rw [wide_two]; decide)
  have jx : judge [rangeRule 0 65535] [(1, wide b 2)] (decide (10 ≤ 0)) = (2, [(1, wide b 2)]) := by
    rw [judge_range 0 65535 [] (by simp) _ (wide_two b), if_pos (by rw [two_bytes hb]; omega)]
  by_cases hf : lo ≤ a ∧ a ≤ hi
  · have jy : judge [rangeRule lo hi] [(1, wide a 2)] (decide (10 ≤ 0)) = (2, [(1, wide a 2)]) := by
      rw [judge_range lo hi [] (by simp) _ (wide_two a), if_pos (by rw [two_bytes ha]; exact hf)]
    have e : min (max a lo) hi = a := by omega
    rw [e]
    exact ⟨_, _, talk_pass fa fb jx jy 60 (by decide), rfl, rfl, rfl, rfl⟩
  · obtain ⟨c, hc⟩ : ∃ c, c = if a < lo then lo else hi := ⟨_, rfl⟩
    have hcl : lo ≤ c ∧ c ≤ hi := by rw [hc]; split <;> omega
    have hce : min (max a lo) hi = c := by rw [hc]; split <;> omega
    have jy : judge [rangeRule lo hi] [(1, wide a 2)] (decide (10 ≤ 0)) = (3, [(1, wide c 2)]) := by
      rw [judge_range lo hi [] (by simp) _ (wide_two a), two_bytes ha, if_neg hf, if_neg (by decide), ← hc]
    have jy2 : judge [rangeRule lo hi] [(1, wide c 2)] false = (2, [(1, wide c 2)]) := by
      rw [judge_range lo hi [] (by simp) _ (wide_two c), if_pos (by rw [two_bytes (by omega)]; exact hcl)]
    have hn : [((1 : Int), wide c 2)] = naked [rangeRule 0 65535] [(1, wide a 2)] [(1, wide c 2)] := by
      rw [naked_range 0 65535 _ _ (wide_two c) (by rw [two_bytes (by omega)]; omega) (by rw [two_bytes (by omega)]; omega), two_bytes (by omega)]
    have fc : Fine [(1, wide c 2)] := fine_one (by rw [wide_two]; decide)
    rw [hce]
    exact ⟨_, _, talk_change (by decide) fa fb fc fc jx jy (.inl ⟨rfl, hn⟩) jy2 60 (by decide), rfl, rfl, rfl, rfl⟩
/-- What the other one does not know is left out. -/
theorem leaves (ask : List Opt) (ts : List Int) (hf : Fine ask) (hp : Apart ask) :
    ∃ X Y, talk 60 (newNeg allRules ask 10 50) (newNeg (ts.map anyRule) [] 10 50) = (X, Y) ∧ X.m.state = 9 ∧ Y.m.state = 9 ∧ X.mine = ask.filter (knows ts) ∧ Y.given = ask.filter (knows ts) := by
  have jx : judge allRules [] (decide (10 ≤ 0)) = (2, []) := judge_all List.Pairwise.nil (by simp) _
  by_cases hall : (ask.filter fun o => !knows ts o) = []
  · have jy : judge (ts.map anyRule) ask (decide (10 ≤ 0)) = (2, ask) := by rw [judge_knows ts _ hp, if_pos hall]
    have e : ask.filter (knows ts) = ask := by
      rw [List.filter_eq_self]
      intro o ho
      have := List.filter_eq_nil_iff.1 hall o ho
      simpa using this
    rw [e]
    exact ⟨_, _, talk_pass hf fine_nil jx jy 60 (by decide), rfl, rfl, rfl, rfl⟩
  · have jy : judge (ts.map anyRule) ask (decide (10 ≤ 0)) = (4, ask.filter fun o => !knows ts o) := by rw [judge_knows ts _ hp, if_neg hall]
    have hno : ((ask.filter (knows ts)).filter fun o => !knows ts o) = [] := by
      rw [List.filter_eq_nil_iff]
      intro o ho
      simp [(List.mem_filter.1 ho).2]
    have jy2 : judge (ts.map anyRule) (ask.filter (knows ts)) false = (2, ask.filter (knows ts)) := by rw [judge_knows ts _ (List.Pairwise.filter _ hp), if_pos hno]
    exact ⟨_, _, talk_change (by decide) hf fine_nil (fine_filter hf _) (fine_filter hf (knows ts)) jx jy (.inr ⟨rfl, (left_knows allRules all_rules_none ts ask).symm, fun o ho => (List.mem_filter.1 ho).1⟩) jy2 60 (by decide), rfl, rfl, rfl, rfl⟩
/-- The rules of the statements. -/
def fewRules : List Rule := [rangeRule 64 1500, ⟨5, 4, 1, 0, 0, [], false⟩]
theorem few_none : ∀ r ∈ [(⟨5, 4, 1, 0, 0, [], false⟩ : Rule)], r.need = false := by
  intro r hr
  obtain rfl : r = ⟨5, 4, 1, 0, 0, [], false⟩ := by simpa using hr
  rfl
theorem few_nil (rejects : Bool) : judge fewRules [] rejects = (2, []) := judge_pass _ _ _ (by simp) (by
  intro r hr
  rcases List.mem_cons.1 hr with rfl | hr
  · rfl
  · exact few_none r hr)
/-- Too great a number. -/
theorem few_great {b : List UInt8} (h : b.length = 2) (hg : 1500 < bnum b) (rejects : Bool) : judge fewRules [(1, b)] rejects = if rejects = true then (4, [(1, b)]) else (3, [(1, wide 1500 2)]) := by
  unfold fewRules
  rw [judge_range 64 1500 _ few_none _ h, if_neg (by omega), if_neg (show ¬ bnum b < 64 by omega)]
/-- Two that were opened over the few rules. -/
theorem few_opened (t u most : Nat) (hm : 5 ≤ most) : talk most (newNeg fewRules [] t u) (newNeg fewRules [] t u) = (opened fewRules [] [] [] t u 1 0 [], opened fewRules [] [] [] t u 1 0 []) :=
  talk_pass fine_nil fine_nil (few_nil _) (few_nil _) most hm
/-- Two that let all pass are Opened. -/
theorem all_opened {a b : List Opt} (ha : Fine a) (hb : Fine b) (pa : Apart a) (pb : Apart b) (t u : Nat) (most : Nat) (hm : 5 ≤ most) :
    talk most (newNeg allRules a t u) (newNeg allRules b t u) = (opened allRules a a b t u 1 0 (options a).2, opened allRules b b a t u 1 0 (options b).2) :=
  talk_pass ha hb (judge_all pb hb.odd _) (judge_all pa ha.odd _) most hm
/-- One of two closes: how both go on. -/
def endX (a b : List Opt) (m : Mach) (id : Nat) : Neg := ⟨allRules, a, a, m, id, 1, 0, false, a, b, 0, (options a).2⟩
theorem ends_closes (a b : List Opt) : (opened allRules a a b 3 2 1 0 (options a).2).act 3 = (endX a b ⟨4, 2, 2, 3, 2⟩ 2, ⟨[⟨5, 2, []⟩], false, true, false, false⟩) :=
  closes (n := opened allRules a a b 3 2 1 0 (options a).2) (c := 3) (l := 0) (t := 3) (u := 2) rfl
theorem ends_told (a b : List Opt) : (opened allRules b b a 3 2 1 0 (options b).2).input ⟨5, 2, []⟩ = (endX b a ⟨5, 0, 2, 3, 2⟩ 1, ⟨[⟨6, 2, []⟩], false, true, false, false⟩) :=
  hear_end (n := opened allRules b b a 3 2 1 0 (options b).2) (c := 3) (l := 0) (t := 3) (u := 2) rfl
theorem ends_ended (a b : List Opt) : (endX a b ⟨4, 2, 2, 3, 2⟩ 2).input ⟨6, 2, []⟩ = (endX a b ⟨2, 2, 0, 3, 2⟩ 2, ⟨[], false, false, false, true⟩) :=
  hear_ended (n := endX a b ⟨4, 2, 2, 3, 2⟩ 2) (c := 2) (l := 2) (t := 3) (u := 2) rfl
theorem ends_tick (a b : List Opt) : (endX b a ⟨5, 0, 2, 3, 2⟩ 1).tick = (endX b a ⟨5, 0, 1, 3, 2⟩ 1, mute) := rfl
theorem ends_tick2 (a b : List Opt) : (endX b a ⟨5, 0, 1, 3, 2⟩ 1).tick = (endX b a ⟨3, 0, 0, 3, 2⟩ 1, ⟨[], false, false, false, true⟩) := rfl
theorem ends_asked (a b : List Opt) : (endX a b ⟨2, 2, 0, 3, 2⟩ 2).input ⟨1, 200, []⟩ = (endX a b ⟨2, 2, 0, 3, 2⟩ 3, sends [⟨6, 3, []⟩]) := by
  have h1 : judge allRules [] (decide (3 ≤ 0)) = (2, []) := judge_all List.Pairwise.nil (by simp) _
  unfold Neg.input
  rw [if_neg (show ¬ (endX a b ⟨2, 2, 0, 3, 2⟩ 2).m.state ≤ 1 by show ¬ 2 ≤ 1; decide), if_pos rfl, if_neg (show ¬ (split ([] : List UInt8)).1 ≠ 0 by decide)]
  unfold Neg.judged
  rw [show judge (endX a b ⟨2, 2, 0, 3, 2⟩ 2).rules (split ([] : List UInt8)).2 (decide ((endX a b ⟨2, 2, 0, 3, 2⟩ 2).m.tries ≤ (endX a b ⟨2, 2, 0, 3, 2⟩ 2).naks)) = (2, []) from h1]
  rfl
/-- Naked, until there are as many as tries; then rejected. -/
theorem naks_once {n : Neg} {c l t u : Nat} {b : List UInt8} (hm : n.m = ⟨6, c, l, t, u⟩) (hr : n.rules = fewRules) (hb : b.length = 2) (hg : 1500 < bnum b) (i : Nat) :
    n.input ⟨1, i, 1 :: 4 :: b⟩ = if t ≤ n.naks then (n, sends [⟨4, i, 1 :: 4 :: b⟩]) else ({ n with naks := n.naks + 1 }, sends [⟨3, i, 1 :: 4 :: wide 1500 2⟩]) := by
  have hs : split (1 :: 4 :: b) = (0, [(1, b)]) := by
    have := fine_split (fine_one (b := b) (by omega))
    rw [options_ok (by simp) (fine_one (b := b) (by omega)).odd] at this
    have e : joined [((1 : Int), b)] = 1 :: 4 :: b := by
      rw [joined_cons, hb]
      simp [joined]
    rw [e] at this
    exact this
  have ho : ∀ c : List UInt8, c.length = 2 → (options [((1 : Int), c)]).2 = 1 :: 4 :: c := fun c hc => by
    rw [options_ok (by simp) (fine_one (b := c) (by omega)).odd]
    show joined [((1 : Int), c)] = _
    rw [joined_cons, hc]
    simp [joined]
  by_cases ht : t ≤ n.naks
  · rw [if_pos ht]
    have h := hear_bad (i := i) (k := 4) (a := [(1, b)]) hm hs (by rw [hr, few_great hb hg, decide_eq_true ht]; rfl) (by decide)
    rw [ho b hb] at h
    exact h
  · rw [if_neg ht]
    have h := hear_bad (i := i) (k := 3) (a := [(1, wide 1500 2)]) hm hs (by rw [hr, few_great hb hg, decide_eq_false ht]; rfl) (by decide)
    rw [ho _ (wide_two 1500)] at h
    exact h
end Pure
end Go.Proofs.Ytjomcffhbaplcaa
/- Rows of rules that a call makes: package nego's copiesOfRules; the statements' Rules and rules. -/
namespace Go.Proofs.Ytjomcffhbaplcaa
open Go.RowKit
theorem nrule_all : (Try.prog.info? 54).map (fun i => (i.zero, i.size, i.bytes)) = some (some (.agg #[.int .i64 0, .int .i64 0, .int .i64 0, .int .i64 0, .int .i64 0, .slice none 0 0, .bool false]), 7, 72) := by kernel_rfl
theorem rulesCells_one (ps : List (Value × Pure.Rule)) (h : ∀ p ∈ ps, p.1.oneCell' = true) : ∀ u ∈ rulesCells ps, u.oneCell' = true := by
  intro u hu
  obtain ⟨p, hp, hu⟩ := List.mem_flatMap.1 hu
  simp at hu
  rcases hu with rfl | rfl | rfl | rfl | rfl | rfl | rfl
  · rfl
  · rfl
  · rfl
  · rfl
  · rfl
  · exact h p hp
  · rfl
section
variable {w : World} {o : Oper} {a : Act} {Q : Exit → Act → World → Prop}
/-- append of one rule to an own row of rules. -/
theorem wp_append_rule {ops : Array Oper} {rest : List Oper} (hgd : o.guard = none) (s x : Operand) (ho : o.op = .call { callee := .builtin .append, args := #[s, x], argTypes := #[23, 23] })
    (base : Nat) (v : Value) (qs : List (Value × Pure.Rule)) (D : Value) (r : Pure.Rule) (hone : D.oneCell' = true) (hs : a.eval s = v) (hx : a.eval x = .slice (some ⟨w.heap.size, 0, none⟩) 1 1) (hR : w.ownsRow base 54 7 v qs.length (rulesCells qs)) (hq : qs.length ≤ 1000000) (hb : base ≤ w.heap.size)
    (h : ∀ A c w', w'.ownsRow base 54 7 (.slice A (qs.length + 1) c) (qs.length + 1) (rulesCells (qs ++ [(D, r)])) → Keeps (fun b => v.ownBlock = some b) w w' → (∀ b, (Value.slice A (qs.length + 1) c).ownBlock = some b → v.ownBlock = some b ∨ w.heap.size ≤ b) → wpList Try.prog ops Q rest (a.put o.dst (.slice A (qs.length + 1) c)) w') :
    wpList Try.prog ops Q (o :: rest) a (w.alloc (.cells #[.int .i64 r.type, .int .i64 r.len, .int .i64 r.how, .int .i64 r.lo, .int .i64 r.hi, D, .bool r.need] 54)) := by
  obtain ⟨i0, hi0, hz0, hz1, hz2⟩ := info_parts nrule_all
  obtain ⟨wb, hwb⟩ : ∃ wb, wb = w.alloc (.cells (rulesCells [(D, r)]).toArray 54) := ⟨_, rfl⟩
  have hwb' : w.alloc (.cells #[.int .i64 r.type, .int .i64 r.len, .int .i64 r.how, .int .i64 r.lo, .int .i64 r.hi, D, .bool r.need] 54) = wb := hwb.symm
  rw [hwb']
  have hkb : Keeps nobody w wb := by rw [hwb]; exact (Keeps.refl _ w).alloc _
  have hbb : Blk wb w.heap.size 54 (rulesCells [(D, r)]).toArray := by rw [hwb]; exact Blk.new w _ _
  have hrb : Row wb (fun b => b = w.heap.size) 7 (.slice (some ⟨w.heap.size, 0, none⟩) 1 1) 1 (rulesCells [(D, r)]) := by
    have h := Row.block (F := fun b => b = w.heap.size) (n := 1) (c := 1) (size := 7) hbb rfl rfl (by unfold maxLen; omega) (Nat.le_refl _)
    exact h
  have hownb : wb.ownsRow base 54 7 v qs.length (rulesCells qs) := ownsRow_keeps hR hkb (fun _ _ h => h)
  have hone' : ∀ q ∈ ([(D, r)] : List (Value × Pure.Rule)), q.1.oneCell' = true := by
    intro q hq
    simp at hq
    subst hq
    exact hone
  refine wpList_append_row hgd s x _ ho base 54 i0 _ 7 72 Try.underlying23 hi0 hz0 hz1 hz2 rfl (by omega) v _ (rulesCells qs) hs hownb _ _ 1 (rulesCells [(D, r)]) hx hrb (rulesCells_one _ hone') (by unfold maxLen; omega) (by omega) (Nat.le_trans hb hkb.size) ?_
  intro v3 w3 hown3 hg3 hat3
  have hcat : rulesCells qs ++ rulesCells [(D, r)] = rulesCells (qs ++ [(D, r)]) := by simp [rulesCells]
  rw [hcat] at hown3
  have hkw : Keeps (fun b => v.ownBlock = some b) wb w3 := (Keeps.refl _ wb).grown hg3 (fun k hk _ => hk)
  have hwbs : w.heap.size < wb.heap.size := by rw [hwb]; simp
  obtain ⟨A4, c4, rfl⟩ := own_form hown3
  refine h A4 c4 w3 hown3 ((hkb.mono (fun _ h => h.elim)).trans hkw) (fun b hb => ?_)
  rcases hat3 with e | e
  · exact .inl (e ▸ hb)
  · rw [e] at hb; injection hb with hb; exact .inr (by omega)
end
/-- Rules that a call has laid: their row, and where their bytes lie. -/
structure RRead (w0 w : World) (F : Nat → Prop) (v : Value) (us : List (Value × Pure.Rule)) : Prop where
  own : w.ownsRow w0.heap.size 54 7 v us.length (rulesCells us)
  rows : ∀ p ∈ us, Row w (fun b => F b ∧ v.ownBlock ≠ some b ∧ b < w.heap.size) 1 p.1 p.2.want.length (u8s p.2.want)
  kept : Keeps nobody w0 w
theorem RRead.keeps {w0 w w' : World} {F : Nat → Prop} {v : Value} {us : List (Value × Pure.Rule)} (h : RRead w0 w F v us) (k : Keeps nobody w w') : RRead w0 w' F v us :=
  ⟨ownsRow_keeps h.own k (fun _ _ h => h), fun p hp => ((h.rows p hp).keeps k (fun _ _ h => h)).mono (fun _ hb => ⟨hb.1, hb.2.1, Nat.lt_of_lt_of_le hb.2.2 k.size⟩), h.kept.trans k⟩
theorem RRead.row {w0 w : World} {F : Nat → Prop} {v : Value} {us : List (Value × Pure.Rule)} (h : RRead w0 w F v us) : RRow w (fun b => (F b ∨ w0.heap.size ≤ b) ∧ b < w.heap.size) v us :=
  ⟨(Row.of_own h.own).mono (fun b hb => ⟨.inr (ownsRow_ge h.own b hb), ownsRow_lt h.own b hb⟩), fun p hp => (h.rows p hp).mono (fun _ hb => ⟨.inl hb.1, hb.2.2⟩)⟩
/-- One rule more. -/
theorem RRead.more {w0 w w' : World} {F : Nat → Prop} {v v' D : Value} {us : List (Value × Pure.Rule)} {r : Pure.Rule} (h : RRead w0 w F v us) (hd : Row w (fun b => F b ∧ v.ownBlock ≠ some b ∧ b < w.heap.size) 1 D r.want.length (u8s r.want))
    (ho : w'.ownsRow w0.heap.size 54 7 v' (us.length + 1) (rulesCells (us ++ [(D, r)]))) (k : Keeps (fun b => v.ownBlock = some b) w w') (hb : ∀ b, v'.ownBlock = some b → v.ownBlock = some b ∨ w.heap.size ≤ b) : RRead w0 w' F v' (us ++ [(D, r)]) := by
  refine ⟨by rw [List.length_append]; exact ho, fun p hp => ?_, h.kept.trans' k (fun i hi hl => by have := ownsRow_ge h.own i hi; omega)⟩
  have hrow : Row w (fun b => F b ∧ v.ownBlock ≠ some b ∧ b < w.heap.size) 1 p.1 p.2.want.length (u8s p.2.want) := by
    rcases List.mem_append.1 hp with hp | hp
    · exact h.rows p hp
    · simp at hp
      subst hp
      exact hd
  refine (hrow.keeps k (fun b hb => hb.2.1)).mono (fun b hx => ⟨hx.1, fun e => ?_, Nat.lt_of_lt_of_le hx.2.2 k.size⟩)
  rcases hb b e with e | e
  · exact hx.2.1 e
  · omega
theorem made_rules (w : World) (n : Nat) (hn : n ≤ 1000000) (F : Nat → Prop) : ∃ cs, (Instr.makeSlice 23 (.int .i64 0) (.int .i64 (n : Int))).run Try.prog w = .ok (.slice (some ⟨w.heap.size, 0, none⟩) 0 n) (w.alloc (.cells cs 54)) ∧
    RRead w (w.alloc (.cells cs 54)) F (.slice (some ⟨w.heap.size, 0, none⟩) 0 n) [] := by
  obtain ⟨i0, hi0, hz0, hz1, hz2⟩ := info_parts nrule_all
  have hrun := run_make (P := Try.prog) w 23 54 i0 _ Try.underlying23 hi0 hz0 .i64 .i64 0 n (by omega) (by omega) (by rw [hz2]; omega) (by omega)
  rw [hz1, Int.toNat_natCast, show Int.toNat 0 = 0 from rfl] at hrun
  refine ⟨_, hrun, ⟨⟨by simp, .inr ⟨w.heap.size, n, _, rfl, Nat.le_refl _, Blk.new w _ _, by simp, by unfold maxLen; omega, by simp [madeCells], by simp⟩⟩, by simp, (Keeps.refl _ w).alloc _⟩⟩
set_option maxRecDepth 100000 in
set_option maxHeartbeats 4000000 in
theorem copiesOfRules_any (F : Nat → Prop) (x : Value) (us : List (Value × Pure.Rule)) (w : World) (hx : RRow w F x us) (hfu : FewRules us) :
    Calls Try.prog 42 #[x] w fun e w' => ∃ u, ∃ qs : List (Value × Pure.Rule), e = .returned u ∧ rulesOf qs = rulesOf us ∧ RRead w w' (fun b => w.heap.size ≤ b) u qs := by
  obtain ⟨X, cx, rfl, _⟩ := hx.form
  have hm := hx.out.2.1
  unfold maxLen at hm
  have HX := Lib.hid hx
  have HFU := Lib.hid hfu
  have hul := hfu.len
  clear hx hfu
  obtain ⟨cs, hrun, hrd0⟩ := made_rules w us.length (by omega) (fun b => w.heap.size ≤ b)
  obtain ⟨w1, hw1⟩ : ∃ w1, w1 = w.alloc (.cells cs 54) := ⟨_, rfl⟩
  rw [← hw1] at hrun hrd0
  have HRD0 := Lib.hid hrd0
  clear hrd0 hw1
  go_enter Try.func42, Try.ntmps42
  go_wp2_with fail
  go_loopw [3, 11] (fun v i wr => ∃ k : Nat, k ≤ us.length ∧ i = .int .i64 (k : Int) ∧ ∃ qs : List (Value × Pure.Rule), rulesOf qs = (rulesOf us).take k ∧ qs.length = k ∧ RRead w wr (fun b => w.heap.size ≤ b) v qs) (fun _ i _ => us.length - (intOf i).toNat)
  case atStart => exact ⟨0, by omega, rfl, [], rfl, rfl, HRD0.out⟩
  case round =>
    clear hrun HRD0
    obtain ⟨k, hk, rfl, qs, hqs, rfl, hrd⟩ := hrel
    obtain ⟨A2, c2, rfl⟩ := own_form hrd.own
    have HQS := Lib.hid hqs
    have HRD := Lib.hid hrd
    clear hqs hrd
    by_cases hkl : qs.length < us.length
    · have i0' : (0 : Int) ≤ (qs.length : Int) := by omega
      have i1 : (qs.length : Int) < (us.length : Int) := by omega
      have d1 : decide ((qs.length : Int) < (us.length : Int)) = true := decide_eq_true (by omega)
      have d2 : decide (qs.length < us.length) = true := decide_eq_true hkl
      obtain ⟨bx, ox, pA, pc, pr, rfl, hFb, hcell, hwant, hpa⟩ := (HX.out.keeps HRD.out.kept (fun _ _ h => h)).pick qs.length hkl
      have hwl : pr.want.length ≤ 100000 := (HFU.out.ok _ (List.mem_of_getElem? hpa)).2
      have HTK := Lib.hid (show (rulesOf us).take (qs.length + 1) = (rulesOf us).take qs.length ++ [pr] from Pure.take_snoc _ qs.length _ (by rw [List.getElem?_map, hpa]; rfl))
      have HRW := Lib.hid hwant
      have x0 : wr.cell? ⟨bx, ox + qs.length * 7, none⟩ = some (.int .i64 pr.type) := hcell 0 _ rfl
      have x1 := hcell 1 _ rfl
      have x2 := hcell 2 _ rfl
      have x3 := hcell 3 _ rfl
      have x4 := hcell 4 _ rfl
      have x5 := hcell 5 _ rfl
      have x6 := hcell 6 _ rfl
      clear hcell hwant hpa
      go_upto_region 5 with fail
      obtain ⟨w3, hw3⟩ : ∃ w3, w3 = wr.alloc (.cells (ruleCells (.slice pA pr.want.length pc, pr)).toArray 54) := ⟨_, rfl⟩
      obtain ⟨gr, hgr⟩ : ∃ gr, gr = wr.heap.size := ⟨_, rfl⟩
      rw [show wr.alloc (.cells #[.int .i64 pr.type, .int .i64 pr.len, .int .i64 pr.how, .int .i64 pr.lo, .int .i64 pr.hi, .slice pA pr.want.length pc, .bool pr.need] 54) = w3 from hw3.symm, ← hgr]
      have hk3 : Keeps nobody wr w3 := by rw [hw3]; exact (Keeps.refl _ wr).alloc _
      have hb3 : Blk w3 gr 54 (ruleCells (.slice pA pr.want.length pc, pr)).toArray := by rw [hw3, hgr]; exact Blk.new wr _ _
      have hsz3 : w3.heap.size = gr + 1 := by rw [hw3, hgr]; simp
      have y5 : w3.cell? ⟨gr, 5, none⟩ = some (.slice pA pr.want.length pc) := by rw [hb3.cell]; rfl
      have HBC := Lib.hid (bclone_any F (.slice pA pr.want.length pc) _ pr.want w3 (HRW.out.keeps hk3 (fun _ _ h => h)) (by omega))
      have HB3 := Lib.hid hb3
      have HK3 := Lib.hid hk3
      have HGR := Lib.hid hgr
      have HS3 := Lib.hid hsz3
      clear hw3 hgr hk3 hb3 x0 x1 x2 x3 x4 x5 x6 hsz3
      go_wp2_with fail
      refine HBC.out.mono ?_
      rintro e w4 ⟨u4, rfl, hu4, hbl4⟩
      obtain ⟨A4, c4, rfl⟩ := own_form hu4
      have hk4 : Keeps nobody w3 w4 := Keeps.new hbl4
      have hb4 := HB3.out.keeps hk4 (fun h => h)
      have z5 : w4.cell? ⟨gr, 5, none⟩ = some (.slice pA pr.want.length pc) := by rw [hb4.cell]; rfl
      have f5 := hb4.frozen 5
      have hrow4 := (Row.of_own hu4).mono (G := fun b => w3.heap.size ≤ b) (fun b hb => ownsRow_ge hu4 b hb)
      have HB5 := Lib.hid (show Blk (w4.setCell ⟨gr, 5, none⟩ (.slice A4 pr.want.length c4)) gr 54 (ruleCells (.slice A4 pr.want.length c4, pr)).toArray from hb4.set 5 _)
      have KR := (Keeps.refl (only gr) w4).put 5 (.slice A4 pr.want.length c4)
      have HROW5 := Lib.hid (hrow4.keeps KR (fun b hb e => by have e : b = gr := e; have := HS3.out; omega))
      have HK5 := Lib.hid (show Keeps nobody wr (w4.setCell ⟨gr, 5, none⟩ (.slice A4 pr.want.length c4)) from (HK3.out.trans hk4).trans' KR (fun i hi hl => by have e : i = gr := hi; have := HGR.out; omega))
      clear hu4 hbl4 hk4 hb4 hrow4 KR HBC y5
      go_upto_region 6 with fail
      generalize hw5 : w4.setCell ⟨gr, 5, none⟩ (.slice A4 pr.want.length c4) = w5 at HB5 HROW5 HK5 ⊢
      have b0 : w5.cell? ⟨gr, 0, none⟩ = some (.int .i64 pr.type) := by rw [HB5.out.cell]; rfl
      have b1 : w5.cell? ⟨gr, 1, none⟩ = some (.int .i64 pr.len) := by rw [HB5.out.cell]; rfl
      have b2 : w5.cell? ⟨gr, 2, none⟩ = some (.int .i64 pr.how) := by rw [HB5.out.cell]; rfl
      have b3 : w5.cell? ⟨gr, 3, none⟩ = some (.int .i64 pr.lo) := by rw [HB5.out.cell]; rfl
      have b4 : w5.cell? ⟨gr, 4, none⟩ = some (.int .i64 pr.hi) := by rw [HB5.out.cell]; rfl
      have b5 : w5.cell? ⟨gr, 5, none⟩ = some (.slice A4 pr.want.length c4) := by rw [HB5.out.cell]; rfl
      have b6 : w5.cell? ⟨gr, 6, none⟩ = some (.bool pr.need) := by rw [HB5.out.cell]; rfl
      have HR5 := Lib.hid (HRD.out.keeps HK5.out)
      have HD5 := Lib.hid ((HROW5.out.strongN (by omega)).mono (G := fun b => w.heap.size ≤ b ∧ (Value.slice A2 qs.length c2).ownBlock ≠ some b ∧ b < w5.heap.size) (fun b hb => by
        have h1 := HRD.out.kept.size
        have h2 := HS3.out
        have h3 := HGR.out
        exact ⟨by have := hb.1; omega, fun e => by have := ownsRow_lt HRD.out.own b e; have := hb.1; omega, hb.2⟩))
      clear hw5 z5 f5
      go_wp2_with (at_builtin; refine stopHere ?_)
      unfold Hid
      refine wp_append_rule rfl (.tmp 19) (.tmp 21) rfl w.heap.size (.slice A2 qs.length c2) qs (.slice A4 pr.want.length c4) pr rfl rfl rfl HR5.out.own (by omega) HR5.out.kept.size ?_
      intro A6 c6 w6 hown6 hk6 hob6
      have HR6 := Lib.hid (HR5.out.more HD5.out hown6 hk6 hob6)
      clear hown6 hk6 hob6 b0 b1 b2 b3 b4 b5 b6
      go_wp2_with fail
      go_roundw
      case rel => exact ⟨qs.length + 1, by omega, by go_num, qs ++ [(.slice A4 pr.want.length c4, pr)], by rw [HTK.out, ← HQS.out]; simp [rulesOf], by simp, HR6.out⟩
      case measure => simp [intOf] <;> omega
    · have hkk : qs.length = us.length := by omega
      have d1 : decide ((qs.length : Int) < (us.length : Int)) = false := decide_eq_false (by omega)
      have d2 : decide (qs.length < us.length) = false := decide_eq_false (by omega)
      have HE := Lib.hid (show rulesOf qs = rulesOf us by rw [HQS.out]; exact List.take_of_length_le (by simp; omega))
      go_wp2
      go_ret
      exact ⟨_, qs, rfl, HE.out, HRD.out⟩
end Go.Proofs.Ytjomcffhbaplcaa
/- Package nego: New, Do. -/
namespace Go.Proofs.Ytjomcffhbaplcaa
open Go.RowKit
namespace Pure
theorem actP_none (s : Neg × Said) : ∀ a, negActP none s a = negAct none s a
  | 0 => rfl | 1 => rfl | 2 => rfl | 3 => rfl | 4 => rfl | 5 => rfl | 6 => rfl | 7 => rfl | 8 => rfl | 9 => rfl | 10 => rfl | 11 => rfl
  | _ + 12 => rfl
theorem actsP_none (n : Neg) (l : List Nat) : n.actsP l none = n.acts l none := by
  unfold Neg.actsP Neg.acts
  have h : negActP none = negAct none := funext fun s => funext fun a => actP_none s a
  rw [h]
theorem fsm_few : ∀ s < 10, ∀ e < 16, (fsmAt s e).1.length ≤ 10 := by decide +kernel
theorem fsm_plain : ∀ s < 10, ∀ e < 6, ∀ a ∈ (fsmAt s e).1, a ≠ 7 ∧ a ≠ 8 ∧ a ≠ 11 := by decide +kernel
theorem act2_fst (m : Mach) (e : Int) : (m.act2 e).1 = if does e then (fsmAt m.state e.toNat).1 else [] := by
  unfold Mach.act2
  split <;> rfl
theorem act2_few {m : Mach} (h : m.Good) (e : Int) : (m.act2 e).1.length ≤ 100 := by
  rw [act2_fst]
  split
  · rename_i hd
    unfold does at hd
    have := fsm_few m.state (by have := h.state; omega) e.toNat (by omega)
    omega
  · simp
theorem act2_plain {m : Mach} (h : m.Good) {e : Int} (he : e < 6) : ∀ a ∈ (m.act2 e).1, a ≠ 7 ∧ a ≠ 8 ∧ a ≠ 11 := by
  rw [act2_fst]
  split
  · rename_i hd
    unfold does at hd
    exact fsm_plain m.state (by have := h.state; omega) e.toNat (by omega)
  · simp
end Pure
/-- Its machine alone has turned. -/
theorem NObj.machine {w w' : World} {g : Nat} {R : Nat → Prop} {f : NF} {n : Pure.Neg} (h : NObj w g R f n) {m' : Pure.Mach} (k : Keeps (only f.gm) w w') (hm : PMach w' f.gm m') (hg : m'.Good) (ht : m'.tries = n.m.tries) (hu : m'.timeout = n.m.timeout) :
    NObj w' g R f { n with m := m' } := by
  obtain ⟨us, r1, r2, r3⟩ := h.rules
  have hs : ∀ b, R b → ¬ only f.gm b := fun b hb e => h.nm (by have e : b = f.gm := e; exact e ▸ hb)
  have hw : ({ n with m := m' } : Pure.Neg).Well := ⟨hg, by show m'.tries ≤ 1000; rw [ht]; exact h.well.tries, by show m'.timeout ≤ 1000; rw [hu]; exact h.well.timeout, h.well.id, h.well.first, h.well.request, h.well.asked, h.well.ours⟩
  exact ⟨h.blk.keeps k (fun e => h.ne e), hm, hw, by rw [h.e1]; exact ht.symm, h.e2, h.e3, h.e4, h.e5, h.e6, ⟨us, r1.keeps k hs, r2, r3⟩, h.first.keeps k hs, h.request.keeps k hs, h.aopts.keeps k hs, h.mine.keeps k hs, h.given.keeps k hs, fun b hb => Nat.lt_of_lt_of_le (h.lt b hb) k.size, h.ng, h.nm, h.ne⟩
theorem Becomes.trans {w0 w1 w2 : World} {g : Nat} {R R1 : Nat → Prop} {f f1 : NF} {n : Pure.Neg} (hgm : f1.gm = f.gm) (hs : ∀ b, R1 b → R b ∨ w0.heap.size ≤ b) (k : Keeps (fun b => b = g ∨ b = f.gm) w0 w1) (h : Becomes w1 w2 g R1 f1 n) : Becomes w0 w2 g R f n := by
  obtain ⟨f2, R2, h1, h2, h3, h4⟩ := h
  refine ⟨f2, R2, h1, by rw [h2, hgm], fun b hb => ?_, k.trans (h4.mono (fun b e => by rw [hgm] at e; exact e))⟩
  rcases h3 b hb with h | h
  · exact hs b h
  · exact .inr (Nat.le_trans k.size h)
theorem Outs.since {w0 w1 w2 : World} {v : Value} {o : Pure.Said} (hk : w0.heap.size ≤ w1.heap.size) (h : Outs w1 w2 v o) : Outs w0 w2 v o := by
  obtain ⟨sv, ps, h1, h2, h3, h4⟩ := h
  exact ⟨sv, ps, h1, h2.mono (fun b hb => ⟨Nat.le_trans hk hb.1, hb.2⟩), h3, h4⟩
/-- A store into a block of the call's own. -/
theorem Outs.far {w0 w w' : World} {r : Nat} {v : Value} {o : Pure.Said} (h : Outs w0 w v o) (k : Keeps (only r) w w') (hr : r < w0.heap.size) : Outs w0 w' v o := by
  obtain ⟨sv, ps, h1, h2, h3, h4⟩ := h
  refine ⟨sv, ps, h1, (h2.keeps k (fun b hb e => by have e : b = r := e; have := hb.1; omega)).mono (fun b hb => ⟨hb.1, Nat.lt_of_lt_of_le hb.2 k.size⟩), h3, h4⟩
theorem Becomes.close {w0 W w' w'' : World} {g ro : Nat} {R R1 : Nat → Prop} {f f1 : NF} {n : Pure.Neg} (hB : Becomes W w' g R1 f1 n) (hgm : f1.gm = f.gm) (hs : ∀ b, R1 b → R b ∨ w0.heap.size ≤ b) (k0 : Keeps (fun b => b = g ∨ b = f.gm) w0 W) (k : Keeps (only ro) w' w'') (h0 : w0.heap.size ≤ ro) (hW : ro < W.heap.size)
    (hg : g ≠ ro) (hm : f.gm ≠ ro) (hR : ¬ R1 ro) : Becomes w0 w'' g R f n := by
  obtain ⟨f', R', h1, h2, h3, h4⟩ := hB
  refine ⟨f', R', h1.keeps k (fun e => hg e) (fun e => hm (by have e : f'.gm = ro := e; rw [h2, hgm] at e; exact e)) (fun b hb e => ?_), by rw [h2, hgm], fun b hb => ?_, ?_⟩
  · have e : b = ro := e
    subst e
    rcases h3 _ hb with h | h
    · exact hR h
    · omega
  · rcases h3 b hb with h | h
    · exact hs b h
    · exact .inr (Nat.le_trans k0.size h)
  · exact (k0.trans (h4.mono (fun b e => by rw [hgm] at e; exact e))).trans' k (fun i hi hl => by have e : i = ro := hi; omega)
/-- What perform does where nothing came in. -/
theorem perform_none (g _ : Nat) (R1 : Nat → Prop) (f1 : NF) (n1 : Pure.Neg) (m' : Pure.Mach) (l : List Nat) (W W0 : World) (h1 : NObj W g R1 f1 { n1 with m := m' }) (hp : ∀ a ∈ l, a ≠ 7 ∧ a ≠ 8 ∧ a ≠ 11) (hf : l.length ≤ 100) (hk1 : n1.naks ≤ 1000) (hW0 : g < W0.heap.size) (A : Option Addr) (c : Nat) (hl : Row W (fun b => W0.heap.size ≤ b) 1 (.slice A l.length c) l.length (ints l)) :
    Calls Try.prog 46 #[.pointer (some ⟨g, 0, none⟩), .slice A l.length c, .agg #[.int .i64 0, .int .i64 0, .slice none 0 0, .int .i64 0, .slice none 0 0]] W fun e' w' => ∃ v, e' = .returned v ∧ Outs W w' v (({ n1 with m := m' } : Pure.Neg).acts l none).2 ∧ Becomes W w' g R1 f1 (({ n1 with m := m' } : Pure.Neg).acts l none).1 := by
  have hp := perform_all g R1 (fun b => W0.heap.size ≤ b) nobody f1 { n1 with m := m' } _ (.slice none 0 0) (.slice none 0 0) l ⟨0, 0, []⟩ 0 [] none W h1 hl (fun b hb => by omega) (Row.nil _ _ _) (ORow.nil _ _) ⟨by simp, by simp⟩ (fun b hb => hb.elim)
    (.inl ⟨rfl, by decide, hp⟩) hf hk1
  rw [Pure.actsP_none] at hp
  exact hp
end Go.Proofs.Ytjomcffhbaplcaa
