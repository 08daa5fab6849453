/- Chapter 13's statements: a list of rules that let all pass, as it grows; New of any options. -/
import Derived.Test.YtjomcffhbaplcaaGreatDoorQ49
namespace Go.Proofs.YtjomcffhbaplcaaGreatDoor
open Go.RowKit
section
variable {w0 w w' : World} {g mb i gx gy : Nat} {mx my : GM} {Vm Vo : Value} {lm lo : List Pure.Pkt} {Mm Mo : Pure.Neg}
theorem NPair.ticksK (h : NPair w0 w g mb i Vm Vo lm lo gx mx gy my Mm Mo) (hnk : Mm.naks ≤ 1000) {n' : Pure.Neg} {o : Pure.Said} (hE : Mm.tick = (n', o)) :
    Calls Tryz.prog 20 #[.pointer (some ⟨gx, 0, none⟩)] w fun r w' => ∃ sv, r = .returned (.agg #[sv, .bool o.up, .bool o.down, .bool o.start, .bool o.done]) ∧ NPend w0 w' g mb i Vm Vo lm lo gx mx gy my n' Mo sv o.send ∧ Keeps (fun b => b = gx ∨ b = mx) w w' := by
  obtain ⟨c, Rm, Ro, Fm, Fo, h⟩ := h
  obtain ⟨f, hn, hm, hj⟩ := h.me
  have hcall := tick_any gx Rm f Mm w hn hnk
  rw [hE] at hcall
  refine hcall.mono ?_
  rintro r w' ⟨v, rfl, ho, hb⟩
  have hk : Keeps (fun b => b = gx ∨ b = mx) w w' := by
    obtain ⟨_, _, _, _, _, k⟩ := hb
    rw [hm] at k
    exact k
  obtain ⟨sv, rfl, hp⟩ := h.turned hm hj ho hb
  exact ⟨sv, rfl, hp, hk⟩
/-- Where the one packet lies that was sent. -/
theorem PRow.place {w : World} {F : Nat → Prop} {q r c : Nat} {v : Value} {p : Pure.Pkt} (h : PRow w F (.slice (some ⟨q, r, none⟩) 1 c) [(v, p)]) : F q := by
  obtain ⟨_, _, A9, c9, e9, _, _, h9⟩ := h.out
  obtain ⟨b9, o9, e9', hF9, _⟩ := h9 (by simp)
  injection e9 with e9 _ _
  rw [e9'] at e9
  injection e9 with e9
  injection e9 with e9 _
  rw [e9]
  exact hF9
end
abbrev anyRow (ts : List Int) : List (Value × Pure.Rule) := ts.map fun t => (.slice none 0 0, Pure.anyRule t)
/-- Rules of the law's own that let pass so many types. -/
structure RAny (w0 w : World) (v : Value) (ts : List Int) : Prop where
  own : w.ownsRow w0.heap.size 28 7 v ts.length (rulesCells (anyRow ts))
  size : w0.heap.size ≤ w.heap.size
theorem RAny.nil (w : World) : RAny w w (.slice none 0 0) [] := ⟨World.ownsRow_nil _ _ _ _, Nat.le_refl _⟩
theorem RAny.keeps {w0 w w' : World} {v : Value} {ts : List Int} (h : RAny w0 w v ts) (k : Keeps nobody w w') : RAny w0 w' v ts := ⟨ownsRow_keeps h.own k (fun _ _ h => h), Nat.le_trans h.size k.size⟩
/-- Another list of the law's own turns. -/
theorem RAny.far {w0 w w' : World} {v u : Value} {ts : List Int} (h : RAny w0 w v ts) (k : Keeps (fun b => u.ownBlock = some b) w w') (hd : ∀ b, v.ownBlock = some b → u.ownBlock ≠ some b) : RAny w0 w' v ts := ⟨ownsRow_keeps h.own k (fun b hb e => hd b hb e), Nat.le_trans h.size k.size⟩
theorem RAny.len {w0 w : World} {v : Value} {ts : List Int} (h : RAny w0 w v ts) : ts.length ≤ maxLen := (Row.of_own h.own).2.1
theorem RAny.form {w0 w : World} {v : Value} {ts : List Int} (h : RAny w0 w v ts) : ∃ A c, v = .slice A ts.length c := own_form h.own
theorem anyRow_of (ts : List Int) : rulesOf (anyRow ts) = ts.map Pure.anyRule := by
  simp [rulesOf, anyRow, Function.comp_def]
theorem RAny.row {w0 w : World} {v : Value} {ts : List Int} (h : RAny w0 w v ts) : RRow w (fun b => v.ownBlock = some b) v (anyRow ts) := by
  refine ⟨?_, fun p hp => ?_⟩
  · have := Row.of_own h.own
    have e : (anyRow ts).length = ts.length := by simp
    rw [e]; exact this
  · obtain ⟨t, _, rfl⟩ := List.mem_map.1 hp
    exact Row.nil _ _ _
theorem any_few {ts : List Int} (h : ts.length ≤ 1000) : FewRules (anyRow ts) := ⟨by simp; omega, fun p hp => by
  obtain ⟨t, _, rfl⟩ := List.mem_map.1 hp
  exact ⟨fun h1 _ => by have : (1 : Int) ≤ -1 := h1; omega, by simp [Pure.anyRule]⟩⟩
theorem RAny.more {w0 w w' : World} {v v' : Value} {ts : List Int} {t : Int} {n : Nat} (h : RAny w0 w v ts) (hn : n = ts.length) (ho : w'.ownsRow w0.heap.size 28 7 v' (n + 1) (rulesCells (anyRow ts ++ [(.slice none 0 0, Pure.anyRule t)]))) (k : Keeps (fun b => v.ownBlock = some b) w w') : RAny w0 w' v' (ts ++ [t]) := by
  refine ⟨?_, Nat.le_trans h.size k.size⟩
  have e : anyRow (ts ++ [t]) = anyRow ts ++ [(.slice none 0 0, Pure.anyRule t)] := by simp
  rw [e, List.length_append, List.length_singleton, ← hn]
  exact ho
/-- The law's own list turns, seen from the law's start. -/
theorem RAny.quiet {w0 w w' : World} {v : Value} {ts : List Int} (h : RAny w0 w v ts) (h0 : Keeps nobody w0 w) (k : Keeps (fun b => v.ownBlock = some b) w w') : Keeps nobody w0 w' :=
  h0.trans' k (fun i hi hl => by have := ownsRow_ge h.own i hi; omega)
theorem upto_snoc (k : Nat) : ((List.range (k + 1)).map fun t => ((t : Nat) : Int)) = ((List.range k).map fun t => ((t : Nat) : Int)) ++ [(k : Int)] := by rw [List.range_succ, List.map_append]; rfl
theorem small13_few {zs : List (Value × Pure.Opt)} (h : smallOpts (optsOf zs)) : FewOpts zs := by
  obtain ⟨h1, h2⟩ := h
  refine ⟨by simp at h1; omega, fun p hp => ?_⟩
  have := h2 p.2 (List.mem_map.2 ⟨p, hp, rfl⟩)
  omega
/-- New of rules that let pass, and of options of an argument: a negotiator, or none. -/
theorem new_any13 (Fu Fx : Nat → Prop) (xu x : Value) (ts : List Int) (zs : List (Value × Pure.Opt)) (tr ti : Nat) (W : World) (hu : RRow W Fu xu (anyRow ts)) (ht : ts.length ≤ 1000) (hx : ORow W Fx x zs) (hF : ∀ b, Fx b → b < W.heap.size) (hm : mayBe tr ti) :
    Calls Tryz.prog 13 #[xu, x, .int .i64 (tr : Int), .int .i64 (ti : Int)] W fun e w' => (∃ g f R, Pure.Fine (optsOf zs) ∧ e = .returned (.tuple #[.pointer (some ⟨g, 0, none⟩), .int .i64 0]) ∧ NObj w' g R f (Pure.newNeg (ts.map Pure.anyRule) (optsOf zs) tr ti) ∧ W.heap.size ≤ g ∧ (W.heap.size ≤ f.gm ∧ f.gm.j = byRules g) ∧ (∀ b, R b → W.heap.size ≤ b) ∧ Keeps nobody W w') ∨
      (e = .returned (.tuple #[.pointer none, .int .i64 1]) ∧ Keeps nobody W w') := by
  by_cases hf : (Pure.options (optsOf zs)).1 = 0
  · refine (newneg_any Fu Fx xu x (anyRow ts) zs tr ti W hu hx hF (any_few ht) (Pure.fine_of hf) hm).mono ?_
    rintro e w' ⟨g, f, R, h1, h2, h3⟩
    rw [anyRow_of] at h2
    exact .inl ⟨g, f, R, Pure.fine_of hf, h1, h2, h3⟩
  · exact (newneg_bad Fu Fx xu x (anyRow ts) zs tr ti W hu hx hF hf hm).mono fun e w' h => .inr h
theorem all_upto : Pure.allRules = ((List.range 256).map fun t => ((t : Nat) : Int)).map Pure.anyRule := Pure.allRules_eq
theorem all_short : Pure.allRules.length ≤ 1000 := by rw [all_upto, List.length_map, List.length_map, List.length_range]; decide
end Go.Proofs.YtjomcffhbaplcaaGreatDoor
/- Chapter 13's statements on one negotiator: what their walks share. -/
namespace Go.Proofs.YtjomcffhbaplcaaGreatDoor
open Go.RowKit
/-- One negotiator of the law's own. -/
structure NSolo (w0 w : World) (gx : Nat) (mx : GM) (M : Pure.Neg) : Prop where
  env : Env13 w0
  bel : Below w0.heap.size w0 w
  obj : ∃ R f, NObj w gx R f M ∧ f.gm = mx
  gnew : w0.heap.size ≤ gx
  mnew : w0.heap.size ≤ mx
  jud : mx.j = byRules gx
/-- What it sent, in new blocks. -/
def Posts (w w' : World) (sv : Value) (l : List Pure.Pkt) : Prop :=
  ∃ ps : List (Value × Pure.Pkt), ps.map Prod.snd = l ∧ ps.length ≤ 100 ∧ PRow w' (fun b => w.heap.size ≤ b ∧ b < w'.heap.size) sv ps
section
variable {w0 w w' : World} {gx : Nat} {mx : GM} {M : Pure.Neg}
theorem NSolo.lt (h : NSolo w0 w gx mx M) : gx < w.heap.size ∧ mx < w.heap.size := by
  obtain ⟨R, f, h1, rfl⟩ := h.obj
  exact ⟨h1.blk.lt, Blk.lt h1.mach⟩
/-- Nothing of it has turned. -/
theorem NSolo.keeps {S : Nat → Prop} (h : NSolo w0 w gx mx M) (k : Keeps S w w') (hS : ∀ b, S b → w0.heap.size ≤ b) (hg : ¬ S gx) (hm : ¬ S mx) (hr : ∀ b, S b → ∀ R f, NObj w gx R f M → ¬ R b) : NSolo w0 w' gx mx M := by
  obtain ⟨R, f, h1, rfl⟩ := h.obj
  refine ⟨h.env, ⟨k.os.trans h.bel.os, k.tape.trans h.bel.tape, k.output.trans h.bel.output, Nat.le_trans h.bel.size k.size, fun b hb => (k.block b (Nat.lt_of_lt_of_le hb h.bel.size) (fun e => ?_)).trans (h.bel.block b hb)⟩, ⟨R, f, h1.keeps k hg hm (fun b hb e => hr b e R f h1 hb), rfl⟩, h.gnew, h.mnew, h.jud⟩
  have := hS b e
  omega
theorem NSolo.quiet (h : NSolo w0 w gx mx M) (k : Keeps nobody w w') : NSolo w0 w' gx mx M := h.keeps k (fun _ e => e.elim) (fun e => e) (fun e => e) (fun _ e => e.elim)
/-- It has acted. -/
theorem NSolo.turned {f : NF} {R : Nat → Prop} {n' : Pure.Neg} {o : Pure.Said} {v : Value} (h : NSolo w0 w gx mx M) (hm : f.gm = mx) (ho : Outs w w' v o) (hb : Becomes w w' gx R f n') :
    ∃ sv, v = .agg #[sv, .bool o.up, .bool o.down, .bool o.start, .bool o.done] ∧ NSolo w0 w' gx mx n' ∧ Posts w w' sv o.send ∧ Keeps (fun b => b = gx ∨ b = mx) w w' := by
  obtain ⟨f', R', hn, hgm, hsub, k⟩ := hb
  obtain ⟨sv, ps, rfl, hp, he, hfew⟩ := ho
  rw [hm] at k hgm
  refine ⟨sv, rfl, ⟨h.env, ⟨k.os.trans h.bel.os, k.tape.trans h.bel.tape, k.output.trans h.bel.output, Nat.le_trans h.bel.size k.size, fun b hb => (k.block b (Nat.lt_of_lt_of_le hb h.bel.size) (fun e => ?_)).trans (h.bel.block b hb)⟩, ⟨R', f', hn, hgm⟩, h.gnew, h.mnew, h.jud⟩, ⟨ps, he, hfew, hp⟩, k⟩
  have h1 := h.gnew
  have h2 := h.mnew
  rcases e with rfl | rfl <;> omega
theorem NSolo.does (h : NSolo w0 w gx mx M) (e : Int) (he : e = 0 ∨ e = 1 ∨ e = 2 ∨ e = 3) (hnk : M.naks ≤ 1000) {n' : Pure.Neg} {o : Pure.Said} (hE : M.act e = (n', o)) :
    Calls Tryz.prog 14 #[.pointer (some ⟨gx, 0, none⟩), .int .i64 e] w fun r w' => ∃ sv, r = .returned (.agg #[sv, .bool o.up, .bool o.down, .bool o.start, .bool o.done]) ∧ NSolo w0 w' gx mx n' ∧ Posts w w' sv o.send ∧ Keeps (fun b => b = gx ∨ b = mx) w w' := by
  obtain ⟨R, f, hn, hm⟩ := h.obj
  have hcall : Calls Tryz.prog 14 #[.pointer (some ⟨gx, 0, none⟩), .int .i64 e] w fun r w' => ∃ v, r = .returned v ∧ Outs w w' v (M.act e).2 ∧ Becomes w w' gx R f (M.act e).1 := by
    rcases he with rfl | he
    · exact do_up gx R f M w hn
    · exact do_other gx R f M e he w hn hnk
  rw [hE] at hcall
  refine hcall.mono ?_
  rintro r w' ⟨v, rfl, ho, hb⟩
  obtain ⟨sv, rfl, hp⟩ := h.turned hm ho hb
  exact ⟨sv, rfl, hp⟩
theorem NSolo.ticks (h : NSolo w0 w gx mx M) (hnk : M.naks ≤ 1000) {n' : Pure.Neg} {o : Pure.Said} (hE : M.tick = (n', o)) :
    Calls Tryz.prog 20 #[.pointer (some ⟨gx, 0, none⟩)] w fun r w' => ∃ sv, r = .returned (.agg #[sv, .bool o.up, .bool o.down, .bool o.start, .bool o.done]) ∧ NSolo w0 w' gx mx n' ∧ Posts w w' sv o.send ∧ Keeps (fun b => b = gx ∨ b = mx) w w' := by
  obtain ⟨R, f, hn, hm⟩ := h.obj
  have hcall := tick_any gx R f M w hn hnk
  rw [hE] at hcall
  refine hcall.mono ?_
  rintro r w' ⟨v, rfl, ho, hb⟩
  obtain ⟨sv, rfl, hp⟩ := h.turned hm ho hb
  exact ⟨sv, rfl, hp⟩
theorem NSolo.hears (h : NSolo w0 w gx mx M) {F : Nat → Prop} (d : Value) (p : Pure.Pkt) (hd : Row w F 1 d p.data.length (u8s p.data)) (hF : ∀ b, F b → b < w.heap.size ∧ b ≠ gx ∧ b ≠ mx) (hnk : M.naks ≤ 1000) (hrl : M.rules.length ≤ 1000) (hdr : M.dropped ≤ 1000000) {n' : Pure.Neg} {o : Pure.Said} (hE : M.input p = (n', o)) :
    Calls Tryz.prog 15 #[.pointer (some ⟨gx, 0, none⟩), pktV p d] w fun r w' => ∃ sv, r = .returned (.agg #[sv, .bool o.up, .bool o.down, .bool o.start, .bool o.done]) ∧ NSolo w0 w' gx mx n' ∧ Posts w w' sv o.send ∧ Keeps (fun b => b = gx ∨ b = mx) w w' := by
  obtain ⟨R, f, hn, hm⟩ := h.obj
  have henv : Env13 w := h.env.below h.bel
  obtain ⟨a, ha⟩ := henv.sent
  have hcall : Calls Tryz.prog 15 #[.pointer (some ⟨gx, 0, none⟩), pktV p d] w fun r w' => ∃ v, r = .returned v ∧ Outs w w' v (M.input p).2 ∧ Becomes w w' gx R f (M.input p).1 := by
    by_cases hr : M.refuses p
    · exact input_drops F R gx f M d p a w henv.handle ha hn (fun b hb => (hF b hb).1) hd hr hdr
    · exact input_heeds F R gx f M d p a w henv.handle ha hn (by rw [hm]; exact h.jud) (fun b hb => by rw [hm]; exact hF b hb) hd hr hnk hrl
  rw [hE] at hcall
  refine hcall.mono ?_
  rintro r w' ⟨v, rfl, ho, hb⟩
  obtain ⟨sv, rfl, hp⟩ := h.turned hm ho hb
  exact ⟨sv, rfl, hp⟩
theorem NSolo.state (h : NSolo w0 w gx mx M) : Calls Tryz.prog 16 #[.pointer (some ⟨gx, 0, none⟩)] w fun e w' => e = .returned (.int .i64 (M.m.state : Nat)) ∧ w = w' := by
  obtain ⟨R, f, h, _⟩ := h.obj
  exact nstate_any gx R f M w h
theorem NSolo.drops (h : NSolo w0 w gx mx M) : Calls Tryz.prog 23 #[.pointer (some ⟨gx, 0, none⟩)] w fun e w' => e = .returned (.int .i64 (M.dropped : Nat)) ∧ w = w' := by
  obtain ⟨R, f, h, _⟩ := h.obj
  exact ndropped_any gx R f M w h
theorem NSolo.givens (h : NSolo w0 w gx mx M) : Calls Tryz.prog 19 #[.pointer (some ⟨gx, 0, none⟩)] w fun e w' => Given w w' e M.given := by
  obtain ⟨R, f, h, _⟩ := h.obj
  exact ngiven_any gx R f M w h
end
theorem Posts.form {w w' : World} {sv : Value} {l : List Pure.Pkt} (h : Posts w w' sv l) : ∃ A c, sv = .slice A l.length c := by
  obtain ⟨ps, h1, _, hp⟩ := h
  obtain ⟨A, c, e, _⟩ := hp.form
  have hl : ps.length = l.length := by rw [← h1, List.length_map]
  exact ⟨A, c, by rw [← hl]; exact e⟩
/-- The one packet that was sent. -/
theorem Posts.one {w w' : World} {sv : Value} {p : Pure.Pkt} (h : Posts w w' sv [p]) : ∃ q r c A' c', sv = .slice (some ⟨q, r, none⟩) 1 c ∧ w.heap.size ≤ q ∧ w'.cell? ⟨q, r, none⟩ = some (.int .i64 p.code) ∧ w'.cell? ⟨q, r + 1, none⟩ = some (.int .i64 p.id) ∧ w'.cell? ⟨q, r + 2, none⟩ = some (.slice A' p.data.length c') ∧ Row w' (fun b => w.heap.size ≤ b ∧ b < w'.heap.size) 1 (.slice A' p.data.length c') p.data.length (u8s p.data) := by
  obtain ⟨A, c, rfl⟩ := h.form
  obtain ⟨ps, h1, _, hp⟩ := h
  obtain ⟨v, rfl⟩ := one_pkt h1
  obtain ⟨q, r, A', c', rfl, rfl, s0, s1, s2, hd⟩ := pkt_read hp
  exact ⟨q, r, c, A', c', rfl, hp.place.1, s0, s1, s2, hd⟩
/-- One that was made. -/
theorem solo_new {w0 wA wB : World} {gx : Nat} {f : NF} {R : Nat → Prop} {X : Pure.Neg} (env : Env13 w0) (bel : Below w0.heap.size w0 wA) (k : Keeps nobody wA wB) (hx : NObj wB gx R f X) (x1 : wA.heap.size ≤ gx) (x2 : wA.heap.size ≤ f.gm ∧ f.gm.j = byRules gx) : NSolo w0 wB gx f.gm X :=
  ⟨env, Below.quiet bel k bel.size, ⟨R, f, hx, rfl⟩, Nat.le_trans bel.size x1, Nat.le_trans bel.size x2.1, x2.2⟩
end Go.Proofs.YtjomcffhbaplcaaGreatDoor
/- Chapter 13's statements: a negotiator, and a list of all that it sent. -/
namespace Go.Proofs.YtjomcffhbaplcaaGreatDoor
open Go.RowKit
structure NLogF (w0 w : World) (gx : Nat) (mx : GM) (M : Pure.Neg) (v : Value) (ps : List (Value × Pure.Pkt)) (F R : Nat → Prop) (f : NF) : Prop where
  env : Env13 w0
  bel : Below w0.heap.size w0 w
  obj : NObj w gx R f M
  gm : f.gm = mx
  gnew : w0.heap.size ≤ gx
  mnew : w0.heap.size ≤ mx
  jud : mx.j = byRules gx
  win : WinOf w F 40 3 v ps.length (pktsCells ps)
  far : ∀ b, F b → b < w.heap.size ∧ w0.heap.size ≤ b ∧ b ≠ gx ∧ b ≠ mx ∧ ¬ R b
  rows : ∀ p ∈ ps, Row w (fun b => b < w.heap.size ∧ ¬ F b ∧ b ≠ gx ∧ b ≠ mx) 1 p.1 p.2.data.length (u8s p.2.data)
/-- A negotiator of the law's own, and what it sent so far, in a list of the law's. -/
def NLog (w0 w : World) (gx : Nat) (mx : GM) (M : Pure.Neg) (v : Value) (ps : List (Value × Pure.Pkt)) : Prop := ∃ F R f, NLogF w0 w gx mx M v ps F R f
/-- .. and packets that were sent, but are not in the list yet. -/
def NLogP (w0 w : World) (gx : Nat) (mx : GM) (M : Pure.Neg) (v : Value) (ps : List (Value × Pure.Pkt)) (sv : Value) (l : List Pure.Pkt) : Prop :=
  ∃ F R f, NLogF w0 w gx mx M v ps F R f ∧ ∃ qs : List (Value × Pure.Pkt), qs.map Prod.snd = l ∧ qs.length ≤ 100 ∧ PRow w (fun b => b < w.heap.size ∧ ¬ F b ∧ b ≠ gx ∧ b ≠ mx) sv qs
section
variable {w0 w w' : World} {gx : Nat} {mx : GM} {M : Pure.Neg} {v : Value} {ps : List (Value × Pure.Pkt)}
theorem NLog.start (h : NSolo w0 w gx mx M) : NLog w0 w gx mx M (.slice none 0 0) [] := by
  obtain ⟨R, f, h1, h2⟩ := h.obj
  exact ⟨fun _ => False, R, f, h.env, h.bel, h1, h2, h.gnew, h.mnew, h.jud, WinOf.nil _ _ _ _, fun _ hb => hb.elim, by simp⟩
theorem NLogF.quiet {F R : Nat → Prop} {f : NF} (h : NLogF w0 w gx mx M v ps F R f) (k : Keeps nobody w w') : NLogF w0 w' gx mx M v ps F R f :=
  ⟨h.env, Below.quiet h.bel k h.bel.size, h.obj.keeps k (fun e => e) (fun e => e) (fun _ _ e => e), h.gm, h.gnew, h.mnew, h.jud, h.win.keeps k (fun _ _ e => e), fun b hb => ⟨Nat.lt_of_lt_of_le (h.far b hb).1 k.size, (h.far b hb).2⟩,
    fun p hp => ((h.rows p hp).keeps k (fun _ _ e => e)).mono (fun _ hb => ⟨Nat.lt_of_lt_of_le hb.1 k.size, hb.2⟩)⟩
theorem NLog.quiet (h : NLog w0 w gx mx M v ps) (k : Keeps nobody w w') : NLog w0 w' gx mx M v ps := by
  obtain ⟨F, R, f, h⟩ := h
  exact ⟨F, R, f, h.quiet k⟩
theorem NLogP.quiet {sv : Value} {l : List Pure.Pkt} (h : NLogP w0 w gx mx M v ps sv l) (k : Keeps nobody w w') : NLogP w0 w' gx mx M v ps sv l := by
  obtain ⟨F, R, f, h, qs, h1, h2, h3⟩ := h
  exact ⟨F, R, f, h.quiet k, qs, h1, h2, (h3.keeps k (fun _ _ e => e)).mono (fun b hb => ⟨Nat.lt_of_lt_of_le hb.1 k.size, hb.2⟩)⟩
theorem NLogP.form {sv : Value} {l : List Pure.Pkt} (h : NLogP w0 w gx mx M v ps sv l) : ∃ A c, sv = .slice A l.length c := by
  obtain ⟨F, R, f, h, qs, h1, _, hp⟩ := h
  obtain ⟨A, c, e, _⟩ := hp.form
  have hl : qs.length = l.length := by rw [← h1, List.length_map]
  exact ⟨A, c, by rw [← hl]; exact e⟩
theorem NLogP.start {wp : World} {Mp : Pure.Neg} {sv : Value} {l : List Pure.Pkt} (hp : NSolo w0 wp gx mx Mp) (h : NSolo w0 w gx mx M) (hs : Posts wp w sv l) : NLogP w0 w gx mx M (.slice none 0 0) [] sv l := by
  obtain ⟨R, f, h1, h2⟩ := h.obj
  obtain ⟨qs, e1, e2, e3⟩ := hs
  have hlt := hp.lt
  exact ⟨fun _ => False, R, f, ⟨h.env, h.bel, h1, h2, h.gnew, h.mnew, h.jud, WinOf.nil _ _ _ _, fun _ hb => hb.elim, by simp⟩, qs, e1, e2, e3.mono (fun b hb => ⟨hb.2, fun e => e, by omega, by omega⟩)⟩
theorem NLog.solo (h : NLog w0 w gx mx M v ps) : NSolo w0 w gx mx M := by
  obtain ⟨F, R, f, h⟩ := h
  exact ⟨h.env, h.bel, ⟨R, f, h.obj, h.gm⟩, h.gnew, h.mnew, h.jud⟩
theorem NLog.form (h : NLog w0 w gx mx M v ps) : ∃ A c, v = .slice A ps.length c := by
  obtain ⟨F, R, f, h⟩ := h
  obtain ⟨A, c, e, _⟩ := h.win.form
  exact ⟨A, c, e⟩
theorem NLog.row (h : NLog w0 w gx mx M v ps) (hn : 0 < ps.length) : PRow w (fun b => b < w.heap.size ∧ b ≠ gx ∧ b ≠ mx) v ps := by
  obtain ⟨F, R, f, h⟩ := h
  refine ⟨h.win.row.mono (fun b hb => ?_), fun p hp => (h.rows p hp).mono (fun b hb => ⟨hb.1, hb.2.2⟩)⟩
  rcases hb with hb | hb
  · have := h.far b hb; exact ⟨this.1, this.2.2.1, this.2.2.2.1⟩
  · omega
theorem NLog.ticks (h : NLog w0 w gx mx M v ps) (hnk : M.naks ≤ 1000) {n' : Pure.Neg} {o : Pure.Said} (hE : M.tick = (n', o)) :
    Calls Tryz.prog 20 #[.pointer (some ⟨gx, 0, none⟩)] w fun r w' => ∃ sv, r = .returned (.agg #[sv, .bool o.up, .bool o.down, .bool o.start, .bool o.done]) ∧ NLogP w0 w' gx mx n' v ps sv o.send := by
  obtain ⟨F, R, f, h⟩ := h
  have hcall := tick_any gx R f M w h.obj hnk
  rw [hE] at hcall
  refine hcall.mono ?_
  rintro r w' ⟨v', rfl, ho, f', R', hn, hgm, hsub, k⟩
  obtain ⟨sv, qs, rfl, hp, he, hfew⟩ := ho
  have hgm0 := h.gm
  rw [hgm0] at k hgm
  have hF : ∀ b, F b → ¬ (b = gx ∨ b = mx) := fun b hb e => by
    have := h.far b hb
    rcases e with e | e
    · exact this.2.2.1 e
    · exact this.2.2.2.1 e
  have hgl := h.obj.blk.lt
  have hml : mx < w.heap.size := by rw [← hgm0]; exact Blk.lt h.obj.mach
  refine ⟨sv, rfl, F, R', f', ⟨h.env, ⟨k.os.trans h.bel.os, k.tape.trans h.bel.tape, k.output.trans h.bel.output, Nat.le_trans h.bel.size k.size, fun b hb => (k.block b (Nat.lt_of_lt_of_le hb h.bel.size) (fun e => ?_)).trans (h.bel.block b hb)⟩, hn, hgm, h.gnew, h.mnew, h.jud, h.win.keeps k hF, fun b hb => ?_, fun p hp => ?_⟩, qs, he, hfew, hp.mono (fun b hb => ⟨hb.2, fun e => by have := (h.far b e).1; omega, by omega, by omega⟩)⟩
  · have h1 := h.gnew
    have h2 := h.mnew
    rcases e with rfl | rfl <;> omega
  · have h1 := h.far b hb
    refine ⟨Nat.lt_of_lt_of_le h1.1 k.size, h1.2.1, h1.2.2.1, h1.2.2.2.1, fun e => ?_⟩
    rcases hsub b e with e | e
    · exact h1.2.2.2.2 e
    · omega
  · exact ((h.rows p hp).keeps k (fun b hb e => e.elim hb.2.2.1 hb.2.2.2)).mono (fun b hb => ⟨Nat.lt_of_lt_of_le hb.1 k.size, hb.2⟩)
/-- What was sent is put behind the list. -/
theorem NLogP.put {sv : Value} {l : List Pure.Pkt} (h : NLogP w0 w gx mx M v ps sv l) (hlen : ps.length ≤ 1000) :
    ∃ (F G : Nat → Prop) (xs ys : List Value) (qs : List (Value × Pure.Pkt)), qs.map Prod.snd = l ∧ WinOf w F 40 3 v ps.length xs ∧ Row w G 3 sv l.length ys ∧ (∀ u ∈ ys, u.oneCell' = true) ∧ ps.length + l.length ≤ 100000 ∧
      ∀ v' w', WinOf w' (fun b => F b ∨ w.heap.size ≤ b) 40 3 v' (ps.length + l.length) (xs ++ ys) → Keeps F w w' → NLog w0 w' gx mx M v' (ps ++ qs) := by
  obtain ⟨F, R, f, h, qs, hqs, hfew, hq⟩ := h
  have hl2 : qs.length = l.length := by rw [← hqs, List.length_map]
  refine ⟨F, _, pktsCells ps, pktsCells qs, qs, hqs, h.win, by rw [← hl2]; exact hq.out, ?_, by omega, fun v' w' hwin k => ?_⟩
  · intro u hu
    obtain ⟨p, hp, hu⟩ := List.mem_flatMap.1 hu
    obtain ⟨A, cc, e, _⟩ := (hq.rows p hp).form
    simp only [pktCells, List.mem_cons, List.not_mem_nil, or_false] at hu
    rcases hu with rfl | rfl | rfl
    · rfl
    · rfl
    · rw [e]; rfl
  have hlt := h.obj.lt
  have hgl := h.obj.blk.lt
  have hml : mx < w.heap.size := by rw [← h.gm]; exact Blk.lt h.obj.mach
  refine ⟨fun b => (F b ∨ w.heap.size ≤ b) ∧ b < w'.heap.size, R, f, h.env, ⟨k.os.trans h.bel.os, k.tape.trans h.bel.tape, k.output.trans h.bel.output, Nat.le_trans h.bel.size k.size, fun b hb => (k.block b (Nat.lt_of_lt_of_le hb h.bel.size) (fun e => ?_)).trans (h.bel.block b hb)⟩,
    h.obj.keeps k (fun e => (h.far gx e).2.2.1 rfl) (fun e => (h.far _ e).2.2.2.1 (by rw [h.gm])) (fun b hb e => (h.far b e).2.2.2.2 hb), h.gm, h.gnew, h.mnew, h.jud, ?_, fun b hb => ?_, fun p hp => ?_⟩
  · have := (h.far b e).2.1
    omega
  · have e : pktsCells (ps ++ qs) = pktsCells ps ++ pktsCells qs := by simp [pktsCells, List.flatMap_append]
    rw [e, List.length_append, hl2]
    exact hwin.mono (fun b hb hl => ⟨hb, hl⟩)
  · refine ⟨hb.2, ?_⟩
    rcases hb.1 with h1 | h1
    · exact (h.far b h1).2
    · exact ⟨by have := h.bel.size; omega, by omega, by omega, fun e => by have := hlt b e; omega⟩
  · rcases List.mem_append.1 hp with hp | hp
    · exact ((h.rows p hp).keeps k (fun b hb => hb.2.1)).mono (fun b hb => ⟨Nat.lt_of_lt_of_le hb.1 k.size, fun e => e.1.elim hb.2.1 (fun e => by omega), hb.2.2⟩)
    · exact ((hq.rows p hp).keeps k (fun b hb => hb.2.1)).mono (fun b hb => ⟨Nat.lt_of_lt_of_le hb.1 k.size, fun e => e.1.elim hb.2.1 (fun e => by omega), hb.2.2⟩)
end
end Go.Proofs.YtjomcffhbaplcaaGreatDoor
