/- Chapter 13's statements: a list of rules that let all pass, as it grows; New of any options. -/
import Derived.Test.YtjomcffhbaplcaaGreatDoorQ49
import Derived.Test.YtjomcffhbaplcaaGreatDoorQ9
import Derived.Test.YtjomcffhbaplcaaGreatDoorQ3
import Derived.Test.YtjomcffhbaplcaaGreatDoorQ4
import Derived.Laws.BitsAllLaws
import Derived.Test.YtjomcffhbaplcaaGreatDoorQ5
namespace Go.Proofs.YtjomcffhbaplcaaGreatDoor
open Go.RowKit
section
variable {w0 w w' : World} {g mb i gx gy : Nat} {mx my : GM} {Vm Vo : Value} {lm lo : List Pure.Pkt} {Mm Mo : Pure.Neg}
theorem NPair.ticksK (h : NPair w0 w g mb i Vm Vo lm lo gx mx gy my Mm Mo) (hnk : Mm.naks ≤ 1000) {n' : Pure.Neg} {o : Pure.Said} (hE : Mm.tick = (n', o)) :
    Calls Tryz.prog 20 #[.pointer (some ⟨gx, 0, none⟩)] w fun r w' => ∃ sv, r = .returned (.agg #[sv, .bool o.up, .bool o.down, .bool o.start, .bool o.done]) ∧ NPend w0 w' g mb i Vm Vo lm lo gx mx gy my n' Mo sv o.send ∧ Keeps (fun b => b = gx ∨ b = mx) w w' := by
  obtain ⟨c, Rm, Ro, Fm, Fo, h⟩ := h
  obtain ⟨f, hn, hm, hj⟩ := h.me
  have hcall := tick_any gx Rm f Mm w hn hnk
  rw [hE] at hcall
  refine hcall.mono ?_
  rintro r w' ⟨v, rfl, ho, hb⟩
  have hk : Keeps (fun b => b = gx ∨ b = mx) w w' := by
    obtain ⟨_, _, _, _, _, k⟩ := hb
    rw [hm] at k
    exact k
  obtain ⟨sv, rfl, hp⟩ := h.turned hm hj ho hb
  exact ⟨sv, rfl, hp, hk⟩
/-- Where the one packet lies that was sent. -/
theorem PRow.place {w : World} {F : Nat → Prop} {q r c : Nat} {v : Value} {p : Pure.Pkt} (h : PRow w F (.slice (some ⟨q, r, none⟩) 1 c) [(v, p)]) : F q := by
  obtain ⟨_, _, A9, c9, e9, _, _, h9⟩ := h.out
  obtain ⟨b9, o9, e9', hF9, _⟩ := h9 (by simp)
  injection e9 with e9 _ _
  rw [e9'] at e9
  injection e9 with e9
  injection e9 with e9 _
  rw [e9]
  exact hF9
end
abbrev anyRow (ts : List Int) : List (Value × Pure.Rule) := ts.map fun t => (.slice none 0 0, Pure.anyRule t)
/-- Rules of the law's own that let pass so many types. -/
structure RAny (w0 w : World) (v : Value) (ts : List Int) : Prop where
  own : w.ownsRow w0.heap.size 28 7 v ts.length (rulesCells (anyRow ts))
  size : w0.heap.size ≤ w.heap.size
theorem RAny.nil (w : World) : RAny w w (.slice none 0 0) [] := ⟨World.ownsRow_nil _ _ _ _, Nat.le_refl _⟩
theorem RAny.keeps {w0 w w' : World} {v : Value} {ts : List Int} (h : RAny w0 w v ts) (k : Keeps nobody w w') : RAny w0 w' v ts := ⟨ownsRow_keeps h.own k (fun _ _ h => h), Nat.le_trans h.size k.size⟩
/-- Another list of the law's own turns. -/
theorem RAny.far {w0 w w' : World} {v u : Value} {ts : List Int} (h : RAny w0 w v ts) (k : Keeps (fun b => u.ownBlock = some b) w w') (hd : ∀ b, v.ownBlock = some b → u.ownBlock ≠ some b) : RAny w0 w' v ts := ⟨ownsRow_keeps h.own k (fun b hb e => hd b hb e), Nat.le_trans h.size k.size⟩
theorem RAny.len {w0 w : World} {v : Value} {ts : List Int} (h : RAny w0 w v ts) : ts.length ≤ maxLen := (Row.of_own h.own).2.1
theorem RAny.form {w0 w : World} {v : Value} {ts : List Int} (h : RAny w0 w v ts) : ∃ A c, v = .slice A ts.length c := own_form h.own
theorem anyRow_of (ts : List Int) : rulesOf (anyRow ts) = ts.map Pure.anyRule := by
  simp [rulesOf, anyRow, Function.comp_def]
theorem RAny.row {w0 w : World} {v : Value} {ts : List Int} (h : RAny w0 w v ts) : RRow w (fun b => v.ownBlock = some b) v (anyRow ts) := by
  refine ⟨?_, fun p hp => ?_⟩
  · have := Row.of_own h.own
    have e : (anyRow ts).length = ts.length := by simp
    rw [e]; exact this
  · obtain ⟨t, _, rfl⟩ := List.mem_map.1 hp
    exact Row.nil _ _ _
theorem any_few {ts : List Int} (h : ts.length ≤ 1000) : FewRules (anyRow ts) := ⟨by simp; omega, fun p hp => by
  obtain ⟨t, _, rfl⟩ := List.mem_map.1 hp
  exact ⟨fun h1 _ => by have : (1 : Int) ≤ -1 := h1; omega, by simp [Pure.anyRule]⟩⟩
theorem RAny.more {w0 w w' : World} {v v' : Value} {ts : List Int} {t : Int} {n : Nat} (h : RAny w0 w v ts) (hn : n = ts.length) (ho : w'.ownsRow w0.heap.size 28 7 v' (n + 1) (rulesCells (anyRow ts ++ [(.slice none 0 0, Pure.anyRule t)]))) (k : Keeps (fun b => v.ownBlock = some b) w w') : RAny w0 w' v' (ts ++ [t]) := by
  refine ⟨?_, Nat.le_trans h.size k.size⟩
  have e : anyRow (ts ++ [t]) = anyRow ts ++ [(.slice none 0 0, Pure.anyRule t)] := by simp
  rw [e, List.length_append, List.length_singleton, ← hn]
  exact ho
/-- The law's own list turns, seen from the law's start. -/
theorem RAny.quiet {w0 w w' : World} {v : Value} {ts : List Int} (h : RAny w0 w v ts) (h0 : Keeps nobody w0 w) (k : Keeps (fun b => v.ownBlock = some b) w w') : Keeps nobody w0 w' :=
  h0.trans' k (fun i hi hl => by have := ownsRow_ge h.own i hi; omega)
theorem upto_snoc (k : Nat) : ((List.range (k + 1)).map fun t => ((t : Nat) : Int)) = ((List.range k).map fun t => ((t : Nat) : Int)) ++ [(k : Int)] := by rw [List.range_succ, List.map_append]; rfl
theorem small13_few {zs : List (Value × Pure.Opt)} (h : smallOpts (optsOf zs)) : FewOpts zs := by
  obtain ⟨h1, h2⟩ := h
  refine ⟨by simp at h1; omega, fun p hp => ?_⟩
  have := h2 p.2 (List.mem_map.2 ⟨p, hp, rfl⟩)
  omega
/-- New of rules that let pass, and of options of an argument: a negotiator, or none. -/
theorem new_any13 (Fu Fx : Nat → Prop) (xu x : Value) (ts : List Int) (zs : List (Value × Pure.Opt)) (tr ti : Nat) (W : World) (hu : RRow W Fu xu (anyRow ts)) (ht : ts.length ≤ 1000) (hx : ORow W Fx x zs) (hF : ∀ b, Fx b → b < W.heap.size) (hm : mayBe tr ti) :
    Calls Tryz.prog 13 #[xu, x, .int .i64 (tr : Int), .int .i64 (ti : Int)] W fun e w' => (∃ g f R, Pure.Fine (optsOf zs) ∧ e = .returned (.tuple #[.pointer (some ⟨g, 0, none⟩), .int .i64 0]) ∧ NObj w' g R f (Pure.newNeg (ts.map Pure.anyRule) (optsOf zs) tr ti) ∧ W.heap.size ≤ g ∧ (W.heap.size ≤ f.gm ∧ f.gm.j = byRules g) ∧ (∀ b, R b → W.heap.size ≤ b) ∧ Keeps nobody W w') ∨
      (e = .returned (.tuple #[.pointer none, .int .i64 1]) ∧ Keeps nobody W w') := by
  by_cases hf : (Pure.options (optsOf zs)).1 = 0
  · refine (newneg_any Fu Fx xu x (anyRow ts) zs tr ti W hu hx hF (any_few ht) (Pure.fine_of hf) hm).mono ?_
    rintro e w' ⟨g, f, R, h1, h2, h3⟩
    rw [anyRow_of] at h2
    exact .inl ⟨g, f, R, Pure.fine_of hf, h1, h2, h3⟩
  · exact (newneg_bad Fu Fx xu x (anyRow ts) zs tr ti W hu hx hF hf hm).mono fun e w' h => .inr h
theorem all_upto : Pure.allRules = ((List.range 256).map fun t => ((t : Nat) : Int)).map Pure.anyRule := Pure.allRules_eq
theorem all_short : Pure.allRules.length ≤ 1000 := by rw [all_upto, List.length_map, List.length_map, List.length_range]; decide
end Go.Proofs.YtjomcffhbaplcaaGreatDoor
/- Chapter 13's statements on one negotiator: what their walks share. -/
namespace Go.Proofs.YtjomcffhbaplcaaGreatDoor
open Go.RowKit
/-- One negotiator of the law's own. -/
structure NSolo (w0 w : World) (gx : Nat) (mx : GM) (M : Pure.Neg) : Prop where
  env : Env13 w0
  bel : Below w0.heap.size w0 w
  obj : ∃ R f, NObj w gx R f M ∧ f.gm = mx
  gnew : w0.heap.size ≤ gx
  mnew : w0.heap.size ≤ mx
  jud : mx.j = byRules gx
/-- What it sent, in new blocks. -/
def Posts (w w' : World) (sv : Value) (l : List Pure.Pkt) : Prop :=
  ∃ ps : List (Value × Pure.Pkt), ps.map Prod.snd = l ∧ ps.length ≤ 100 ∧ PRow w' (fun b => w.heap.size ≤ b ∧ b < w'.heap.size) sv ps
section
variable {w0 w w' : World} {gx : Nat} {mx : GM} {M : Pure.Neg}
theorem NSolo.lt (h : NSolo w0 w gx mx M) : gx < w.heap.size ∧ mx < w.heap.size := by
  obtain ⟨R, f, h1, rfl⟩ := h.obj
  exact ⟨h1.blk.lt, Blk.lt h1.mach⟩
/-- Nothing of it has turned. -/
theorem NSolo.keeps {S : Nat → Prop} (h : NSolo w0 w gx mx M) (k : Keeps S w w') (hS : ∀ b, S b → w0.heap.size ≤ b) (hg : ¬ S gx) (hm : ¬ S mx) (hr : ∀ b, S b → ∀ R f, NObj w gx R f M → ¬ R b) : NSolo w0 w' gx mx M := by
  obtain ⟨R, f, h1, rfl⟩ := h.obj
  refine ⟨h.env, ⟨k.os.trans h.bel.os, k.tape.trans h.bel.tape, k.output.trans h.bel.output, Nat.le_trans h.bel.size k.size, fun b hb => (k.block b (Nat.lt_of_lt_of_le hb h.bel.size) (fun e => ?_)).trans (h.bel.block b hb)⟩, ⟨R, f, h1.keeps k hg hm (fun b hb e => hr b e R f h1 hb), rfl⟩, h.gnew, h.mnew, h.jud⟩
  have := hS b e
  omega
theorem NSolo.quiet (h : NSolo w0 w gx mx M) (k : Keeps nobody w w') : NSolo w0 w' gx mx M := h.keeps k (fun _ e => e.elim) (fun e => e) (fun e => e) (fun _ e => e.elim)
/-- It has acted. -/
theorem NSolo.turned {f : NF} {R : Nat → Prop} {n' : Pure.Neg} {o : Pure.Said} {v : Value} (h : NSolo w0 w gx mx M) (hm : f.gm = mx) (ho : Outs w w' v o) (hb : Becomes w w' gx R f n') :
    ∃ sv, v = .agg #[sv, .bool o.up, .bool o.down, .bool o.start, .bool o.done] ∧ NSolo w0 w' gx mx n' ∧ Posts w w' sv o.send ∧ Keeps (fun b => b = gx ∨ b = mx) w w' := by
  obtain ⟨f', R', hn, hgm, hsub, k⟩ := hb
  obtain ⟨sv, ps, rfl, hp, he, hfew⟩ := ho
  rw [hm] at k hgm
  refine ⟨sv, rfl, ⟨h.env, ⟨k.os.trans h.bel.os, k.tape.trans h.bel.tape, k.output.trans h.bel.output, Nat.le_trans h.bel.size k.size, fun b hb => (k.block b (Nat.lt_of_lt_of_le hb h.bel.size) (fun e => ?_)).trans (h.bel.block b hb)⟩, ⟨R', f', hn, hgm⟩, h.gnew, h.mnew, h.jud⟩, ⟨ps, he, hfew, hp⟩, k⟩
  have h1 := h.gnew
  have h2 := h.mnew
  rcases e with rfl | rfl <;> omega
theorem NSolo.does (h : NSolo w0 w gx mx M) (e : Int) (he : e = 0 ∨ e = 1 ∨ e = 2 ∨ e = 3) (hnk : M.naks ≤ 1000) {n' : Pure.Neg} {o : Pure.Said} (hE : M.act e = (n', o)) :
    Calls Tryz.prog 14 #[.pointer (some ⟨gx, 0, none⟩), .int .i64 e] w fun r w' => ∃ sv, r = .returned (.agg #[sv, .bool o.up, .bool o.down, .bool o.start, .bool o.done]) ∧ NSolo w0 w' gx mx n' ∧ Posts w w' sv o.send ∧ Keeps (fun b => b = gx ∨ b = mx) w w' := by
  obtain ⟨R, f, hn, hm⟩ := h.obj
  have hcall : Calls Tryz.prog 14 #[.pointer (some ⟨gx, 0, none⟩), .int .i64 e] w fun r w' => ∃ v, r = .returned v ∧ Outs w w' v (M.act e).2 ∧ Becomes w w' gx R f (M.act e).1 := by
    rcases he with rfl | he
    · exact do_up gx R f M w hn
    · exact do_other gx R f M e he w hn hnk
  rw [hE] at hcall
  refine hcall.mono ?_
  rintro r w' ⟨v, rfl, ho, hb⟩
  obtain ⟨sv, rfl, hp⟩ := h.turned hm ho hb
  exact ⟨sv, rfl, hp⟩
theorem NSolo.ticks (h : NSolo w0 w gx mx M) (hnk : M.naks ≤ 1000) {n' : Pure.Neg} {o : Pure.Said} (hE : M.tick = (n', o)) :
    Calls Tryz.prog 20 #[.pointer (some ⟨gx, 0, none⟩)] w fun r w' => ∃ sv, r = .returned (.agg #[sv, .bool o.up, .bool o.down, .bool o.start, .bool o.done]) ∧ NSolo w0 w' gx mx n' ∧ Posts w w' sv o.send ∧ Keeps (fun b => b = gx ∨ b = mx) w w' := by
  obtain ⟨R, f, hn, hm⟩ := h.obj
  have hcall := tick_any gx R f M w hn hnk
  rw [hE] at hcall
  refine hcall.mono ?_
  rintro r w' ⟨v, rfl, ho, hb⟩
  obtain ⟨sv, rfl, hp⟩ := h.turned hm ho hb
  exact ⟨sv, rfl, hp⟩
theorem NSolo.hears (h : NSolo w0 w gx mx M) {F : Nat → Prop} (d : Value) (p : Pure.Pkt) (hd : Row w F 1 d p.data.length (u8s p.data)) (hF : ∀ b, F b → b < w.heap.size ∧ b ≠ gx ∧ b ≠ mx) (hnk : M.naks ≤ 1000) (hrl : M.rules.length ≤ 1000) (hdr : M.dropped ≤ 1000000) {n' : Pure.Neg} {o : Pure.Said} (hE : M.input p = (n', o)) :
    Calls Tryz.prog 15 #[.pointer (some ⟨gx, 0, none⟩), pktV p d] w fun r w' => ∃ sv, r = .returned (.agg #[sv, .bool o.up, .bool o.down, .bool o.start, .bool o.done]) ∧ NSolo w0 w' gx mx n' ∧ Posts w w' sv o.send ∧ Keeps (fun b => b = gx ∨ b = mx) w w' := by
  obtain ⟨R, f, hn, hm⟩ := h.obj
  have henv : Env13 w := h.env.below h.bel
  obtain ⟨a, ha⟩ := henv.sent
  have hcall : Calls Tryz.prog 15 #[.pointer (some ⟨gx, 0, none⟩), pktV p d] w fun r w' => ∃ v, r = .returned v ∧ Outs w w' v (M.input p).2 ∧ Becomes w w' gx R f (M.input p).1 := by
    by_cases hr : M.refuses p
    · exact input_drops F R gx f M d p a w henv.handle ha hn (fun b hb => (hF b hb).1) hd hr hdr
    · exact input_heeds F R gx f M d p a w henv.handle ha hn (by rw [hm]; exact h.jud) (fun b hb => by rw [hm]; exact hF b hb) hd hr hnk hrl
  rw [hE] at hcall
  refine hcall.mono ?_
  rintro r w' ⟨v, rfl, ho, hb⟩
  obtain ⟨sv, rfl, hp⟩ := h.turned hm ho hb
  exact ⟨sv, rfl, hp⟩
theorem NSolo.state (h : NSolo w0 w gx mx M) : Calls Tryz.prog 16 #[.pointer (some ⟨gx, 0, none⟩)] w fun e w' => e = .returned (.int .i64 (M.m.state : Nat)) ∧ w = w' := by
  obtain ⟨R, f, h, _⟩ := h.obj
  exact nstate_any gx R f M w h
theorem NSolo.drops (h : NSolo w0 w gx mx M) : Calls Tryz.prog 23 #[.pointer (some ⟨gx, 0, none⟩)] w fun e w' => e = .returned (.int .i64 (M.dropped : Nat)) ∧ w = w' := by
  obtain ⟨R, f, h, _⟩ := h.obj
  exact ndropped_any gx R f M w h
theorem NSolo.givens (h : NSolo w0 w gx mx M) : Calls Tryz.prog 19 #[.pointer (some ⟨gx, 0, none⟩)] w fun e w' => Given w w' e M.given := by
  obtain ⟨R, f, h, _⟩ := h.obj
  exact ngiven_any gx R f M w h
end
theorem Posts.form {w w' : World} {sv : Value} {l : List Pure.Pkt} (h : Posts w w' sv l) : ∃ A c, sv = .slice A l.length c := by
  obtain ⟨ps, h1, _, hp⟩ := h
  obtain ⟨A, c, e, _⟩ := hp.form
  have hl : ps.length = l.length := by rw [← h1, List.length_map]
  exact ⟨A, c, by rw [← hl]; exact e⟩
/-- The one packet that was sent. -/
theorem Posts.one {w w' : World} {sv : Value} {p : Pure.Pkt} (h : Posts w w' sv [p]) : ∃ q r c A' c', sv = .slice (some ⟨q, r, none⟩) 1 c ∧ w.heap.size ≤ q ∧ w'.cell? ⟨q, r, none⟩ = some (.int .i64 p.code) ∧ w'.cell? ⟨q, r + 1, none⟩ = some (.int .i64 p.id) ∧ w'.cell? ⟨q, r + 2, none⟩ = some (.slice A' p.data.length c') ∧ Row w' (fun b => w.heap.size ≤ b ∧ b < w'.heap.size) 1 (.slice A' p.data.length c') p.data.length (u8s p.data) := by
  obtain ⟨A, c, rfl⟩ := h.form
  obtain ⟨ps, h1, _, hp⟩ := h
  obtain ⟨v, rfl⟩ := one_pkt h1
  obtain ⟨q, r, A', c', rfl, rfl, s0, s1, s2, hd⟩ := pkt_read hp
  exact ⟨q, r, c, A', c', rfl, hp.place.1, s0, s1, s2, hd⟩
/-- One that was made. -/
theorem solo_new {w0 wA wB : World} {gx : Nat} {f : NF} {R : Nat → Prop} {X : Pure.Neg} (env : Env13 w0) (bel : Below w0.heap.size w0 wA) (k : Keeps nobody wA wB) (hx : NObj wB gx R f X) (x1 : wA.heap.size ≤ gx) (x2 : wA.heap.size ≤ f.gm ∧ f.gm.j = byRules gx) : NSolo w0 wB gx f.gm X :=
  ⟨env, Below.quiet bel k bel.size, ⟨R, f, hx, rfl⟩, Nat.le_trans bel.size x1, Nat.le_trans bel.size x2.1, x2.2⟩
end Go.Proofs.YtjomcffhbaplcaaGreatDoor
/- The document's numbers of chapter 13: Num, numbered, has. -/
namespace Go.Proofs.YtjomcffhbaplcaaGreatDoor
open Go.RowKit
set_option maxRecDepth 100000 in
set_option maxHeartbeats 2000000 in
theorem docnum_any (F : Nat → Prop) (x : Value) (l : List UInt8) (w : World) (hr : Row w F 1 x l.length (u8s l)) (hl : l.length ≤ 4) :
    Calls Tryz.prog 26 #[x] w fun e w' => e = .returned (.int .i64 (Pure.bnum l : Nat)) ∧ w = w' := by
  obtain ⟨A, c, rfl, hc⟩ := hr.form
  have HR := Lib.hid hr
  have HT := Lib.hid (fun (k : Nat) (h : k ≤ l.length) => show Pure.bnum (l.take k) < 4294967296 from Pure.bnum_small (by rw [List.length_take]; omega))
  have HT3 := Lib.hid (fun (k : Nat) (h : k < l.length) => show Pure.bnum (l.take k) < 16777216 from Nat.lt_of_lt_of_le (Pure.bnum_lt _) (show 256 ^ (l.take k).length ≤ 256 ^ 3 from Nat.pow_le_pow_right (by omega) (by rw [List.length_take]; omega)))
  clear hr
  go_enter Tryz.func26, Tryz.ntmps26
  go_wp2_with fail
  go_loopw [3, 4] (fun v i wr => ∃ k : Nat, k ≤ l.length ∧ i = .int .i64 (k : Int) ∧ v = .int .i64 (Pure.bnum (l.take k) : Nat) ∧ wr = w) (fun _ i _ => l.length - (intOf i).toNat)
  case atStart => exact ⟨0, by omega, rfl, rfl, rfl⟩
  case round =>
    obtain ⟨k, hk, rfl, rfl, rfl⟩ := hrel
    by_cases hkl : k < l.length
    · have i0 : (0 : Int) ≤ (k : Int) := by omega
      have i1 : (k : Int) < (l.length : Int) := by omega
      obtain ⟨b, off, rfl, _, hcx⟩ := HR.out.cellAt (by omega)
      have b0 := hcx k _ (u8s_at l k hkl)
      have hx := (l.getD k 0).toNat_lt
      have hN := HT3.out k hkl
      have hsn : Pure.bnum (l.take (k + 1)) = Pure.bnum (l.take k) * 256 + (l.getD k 0).toNat := by
        rw [List.take_succ_eq_append_getElem hkl, Pure.bnum_snoc]
        simp [List.getD_eq_getElem?_getD, hkl]
      have hM := HT.out (k + 1) (by omega)
      obtain ⟨N, hN'⟩ : ∃ N, N = Pure.bnum (l.take k) := ⟨_, rfl⟩
      obtain ⟨M, hM'⟩ : ∃ N, N = Pure.bnum (l.take (k + 1)) := ⟨_, rfl⟩
      obtain ⟨X, hX⟩ : ∃ N, N = (l.getD k 0).toNat := ⟨_, rfl⟩
      rw [← hN', ← hM', ← hX] at hsn
      rw [← hN'] at hN ⊢
      rw [← hM'] at hM
      rw [← hX] at b0 hx
      have eor : bits .or .i64 ((N : Int) * 256) (X : Int) = (M : Int) := by
        have h := i64_or_nat (N * 256) X (by omega) (by omega)
        rw [show N * 256 ||| X = M by rw [hsn, show (256 : Nat) = 2 ^ 8 by rfl, ← Nat.shiftLeft_eq, Nat.shiftLeft_add_eq_or_of_lt (show X < 2 ^ 8 by omega)]] at h
        simpa using h
      have HM := Lib.hid hM'
      clear hcx hN' hM' hX hsn hM
      go_wp2_with fail
      go_roundw
      case rel => exact ⟨k + 1, by omega, by go_num, by rw [← HM.out], trivial⟩
      case measure => simp [intOf]; omega
    · have hkk : k = l.length := by omega
      have HE := Lib.hid (show Pure.bnum (l.take k) = Pure.bnum l by rw [hkk, List.take_length])
      subst hkk
      clear hkl hk
      go_wp2
      go_ret
      exact ⟨by rw [← HE.out]; rfl, rfl⟩
end Go.Proofs.YtjomcffhbaplcaaGreatDoor
/- Bytes and words as numbers: one bit of a word, a byte with one bit turned. -/
namespace Go.Proofs.YtjomcffhbaplcaaGreatDoor
open Go.RowKit

theorem and1_u32 (B s : Nat) (hB : B < 4294967296) : bits .and .u32 ((B : Int) / 2 ^ s) 1 = if B.testBit s then 1 else 0 := by
  have e1 : ((B : Int) / 2 ^ s) = ((B >>> s : Nat) : Int) := by rw [Nat.shiftRight_eq_div_pow]; simp
  have hle : B >>> s < 4294967296 := Nat.lt_of_le_of_lt (by rw [Nat.shiftRight_eq_div_pow]; exact Nat.div_le_self _ _) hB
  have h := u32_and_nat (B >>> s) 1 hle (by omega)
  rw [nat_mask1] at h
  rw [e1]
  refine h.trans ?_
  have ht := Nat.toNat_testBit B s
  rw [← Nat.shiftRight_eq_div_pow] at ht
  rw [← ht]
  cases B.testBit s <;> rfl

theorem xor_u8 (c k : UInt8) : bits .xor .u8 (c.toNat : Int) (k.toNat : Int) = (((c ^^^ k).toNat : Nat) : Int) := by
  rw [u8_xor_nat c.toNat k.toNat c.toNat_lt k.toNat_lt, UInt8.toNat_xor]
theorem xor_u8_32 (c : UInt8) : bits .xor .u8 (c.toNat : Int) 32 = (((c ^^^ 32).toNat : Nat) : Int) := xor_u8 c 32
theorem and1_i64 (X : Nat) (s : Nat) (hX : X < 4294967296) : bits .and .i64 ((X : Int) / 2 ^ s) 1 = if X.testBit s then 1 else 0 := by
  have e1 : ((X : Int) / 2 ^ s) = ((X >>> s : Nat) : Int) := by rw [Nat.shiftRight_eq_div_pow]; simp
  have hle : X >>> s ≤ X := by rw [Nat.shiftRight_eq_div_pow]; exact Nat.div_le_self _ _
  have h := i64_and_nat (X >>> s) 1 (by omega) (by omega)
  rw [show X >>> s &&& 1 = X >>> s % 2 by simp [Nat.and_one_is_mod]] at h
  rw [e1]
  refine h.trans ?_
  have ht := Nat.toNat_testBit X s
  rw [← Nat.shiftRight_eq_div_pow] at ht
  rw [← ht]
  cases X.testBit s <;> rfl
end Go.Proofs.YtjomcffhbaplcaaGreatDoor
/- The document's Wide: a number in so many bytes. -/
namespace Go.Proofs.YtjomcffhbaplcaaGreatDoor
open Go.RowKit
set_option maxRecDepth 100000 in
set_option maxHeartbeats 2000000 in
theorem docwide_any (x n : Nat) (w : World) (hn : n ≤ 4) (_ : x < 4294967296) :
    Calls Tryz.prog 24 #[.int .i64 x, .int .i64 n] w fun e w' => ∃ u, e = .returned u ∧ w'.ownsRow w.heap.size 5 1 u n (u8s (Pure.wide x n)) ∧ Below w.heap.size w w' := by
  have e0 : wrap64 ((n : Int) - 1) = (n : Int) - 1 := IntWalk.wrap64_in _ (by omega)
  go_enter Tryz.func24, Tryz.ntmps24
  go_wp2_with fail
  go_loopw [5, 6] (fun v i wr => ∃ k : Nat, k ≤ n ∧ i = .int .i64 ((n : Int) - 1 - (k : Int)) ∧ wr.ownsRow w.heap.size 5 1 v k (u8s ((Pure.wide x n).take k)) ∧ Below w.heap.size w wr) (fun _ i _ => (intOf i + 1).toNat)
  case atStart => exact ⟨0, by omega, by simp, World.ownsRow_nil _ _ _ _, Below.refl _ _⟩
  case round =>
    obtain ⟨k, hk, rfl, hW, hB⟩ := hrel
    have HW := Lib.hid hW
    have HB := Lib.hid hB
    obtain ⟨A5, c5, rfl⟩ := own_form hW
    clear hW hB e0
    by_cases hkl : k < n
    · obtain ⟨j, hj⟩ : ∃ j, n - 1 - k = j := ⟨_, rfl⟩
      have hji : (n : Int) - 1 - (k : Int) = (j : Int) := by omega
      have hj3 : j ≤ 3 := by omega
      rw [hji]
      have d0 : decide ((0 : Int) ≤ (j : Int)) = true := decide_eq_true (by omega)
      have e1 : wrap64 (8 * (j : Int)) = ((8 * j : Nat) : Int) := by rw [IntWalk.wrap64_in _ (by omega)]; omega
      have htk : (Pure.wide x n).take (k + 1) = (Pure.wide x n).take k ++ [UInt8.ofNat (x / 256 ^ j % 256)] := by
        rw [List.take_add_one]
        congr 1
        unfold Pure.wide
        rw [List.getElem?_map, List.getElem?_range hkl]
        show [UInt8.ofNat (x / 256 ^ (n - 1 - k) % 256)] = _
        rw [hj]
      obtain ⟨B, hBe⟩ : ∃ B, B = UInt8.ofNat (x / 256 ^ j % 256) := ⟨_, rfl⟩
      rw [← hBe] at htk
      have hbv : ((x : Int) / 2 ^ (8 * j) % 256) = (B.toNat : Int) := by
        rw [hBe, show (UInt8.ofNat (x / 256 ^ j % 256)).toNat = x / 256 ^ j % 256 by simp, show (256 : Nat) ^ j = 2 ^ (8 * j) by rw [Nat.pow_mul]]
        simp
      have hlen : ((Pure.wide x n).take k).length = k := by rw [List.length_take, Pure.wide_length]; omega
      have HTK := Lib.hid htk
      have HRow := Lib.hid (row_new wr [B] #[.int .u8 B.toNat] 1 rfl rfl (by simp))
      have hsz := HB.out.size
      clear htk hBe
      go_wp2_with (at_builtin; refine stopHere ?_)
      unfold Hid
      rw [hbv]
      refine wp_append_u8 rfl (.tmp 13) (.tmp 20) rfl w.heap.size _ k ((Pure.wide x n).take k) hlen rfl (HW.out.alloc _) _ _ [B] rfl HRow.out (by simp; omega) (by simp; omega) ?_
      intro v3 w3 hown3 hg3 hat3
      rw [← HTK.out] at hown3
      have O3 := Lib.hid (show w3.ownsRow w.heap.size 5 1 v3 (k + 1) (u8s ((Pure.wide x n).take (k + 1))) by
        have e : ((Pure.wide x n).take (k + 1)).length = k + 1 := by rw [List.length_take, Pure.wide_length]; omega
        rw [e] at hown3
        exact hown3)
      have B3 := Lib.hid (Below.grown (HB.out.alloc hsz (.cells #[.int .u8 B.toNat] 5)) hg3 (by simp; omega) (fun q hq => (ownsRow_ge HW.out q hq)))
      have hjk : wrap64 ((j : Int) - 1) = (n : Int) - 1 - ((k + 1 : Nat) : Int) := by rw [IntWalk.wrap64_in _ (by omega)]; omega
      clear hown3 hg3 hat3 HRow e1
      go_wp2_with fail
      go_roundw
      case rel => exact ⟨k + 1, by omega, congrArg (Value.int .i64) (by omega), O3.out, B3.out⟩
      case measure => simp [intOf] <;> omega
    · have hkk : k = n := by omega
      subst hkk
      have hm1 : (k : Int) - 1 - (k : Int) = -1 := by omega
      rw [hm1]
      have e : (Pure.wide x k).take k = Pure.wide x k := by rw [List.take_of_length_le (by rw [Pure.wide_length]; omega)]
      have HW2 := Lib.hid (show wr.ownsRow w.heap.size 5 1 (.slice A5 k c5) k (u8s (Pure.wide x k)) by have := HW.out; rw [e] at this; exact this)
      clear e hm1
      go_wp2
      go_ret
      exact ⟨_, rfl, HW2.out, HB.out⟩
end Go.Proofs.YtjomcffhbaplcaaGreatDoor
