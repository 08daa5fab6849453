/- Chapter 13's statements: a list of rules that let all pass, as it grows; New of any options. -/
import Derived.Test.YtjomcffhbaplcaaGreatDoorQ49
namespace Go.Proofs.YtjomcffhbaplcaaGreatDoor
open Go.RowKit
section
variable {w0 w w' : World} {g mb i gx gy : Nat} {mx my : GM} {Vm Vo : Value} {lm lo : List Pure.Pkt} {Mm Mo : Pure.Neg}
theorem NPair.ticksK (h : NPair w0 w g mb i Vm Vo lm lo gx mx gy my Mm Mo) (hnk : Mm.naks ≤ 1000) {n' : Pure.Neg} {o : Pure.Said} (hE : Mm.tick = (n', o)) :
    Calls Tryz.prog 20 #[.pointer (some ⟨gx, 0, none⟩)] w fun r w' => ∃ sv, r = .returned (.agg #[sv, .bool o.up, .bool o.down, .bool o.start, .bool o.done]) ∧ NPend w0 w' g mb i Vm Vo lm lo gx mx gy my n' Mo sv o.send ∧ Keeps (fun b => b = gx ∨ b = mx) w w' := by
  obtain ⟨c, Rm, Ro, Fm, Fo, h⟩ := h
  obtain ⟨f, hn, hm, hj⟩ := h.me
  have hcall := tick_any gx Rm f Mm w hn hnk
  rw [hE] at hcall
  refine hcall.mono ?_
  rintro r w' ⟨v, rfl, ho, hb⟩
  have hk : Keeps (fun b => b = gx ∨ b = mx) w w' := by
    obtain ⟨_, _, _, _, _, k⟩ := hb
    rw [hm] at k
    exact k
  obtain ⟨sv, rfl, hp⟩ := h.turned hm hj ho hb
  exact ⟨sv, rfl, hp, hk⟩
/-- Where the one packet lies that was sent. -/
theorem PRow.place {w : World} {F : Nat → Prop} {q r c : Nat} {v : Value} {p : Pure.Pkt} (h : PRow w F (.slice (some ⟨q, r, none⟩) 1 c) [(v, p)]) : F q := by
  obtain ⟨_, _, A9, c9, e9, _, _, h9⟩ := h.out
  obtain ⟨b9, o9, e9', hF9, _⟩ := h9 (by simp)
  injection e9 with e9 _ _
  rw [e9'] at e9
  injection e9 with e9
  injection e9 with e9 _
  rw [e9]
  exact hF9
end
abbrev anyRow (ts : List Int) : List (Value × Pure.Rule) := ts.map fun t => (.slice none 0 0, Pure.anyRule t)
/-- Rules of the law's own that let pass so many types. -/
structure RAny (w0 w : World) (v : Value) (ts : List Int) : Prop where
  own : w.ownsRow w0.heap.size 28 7 v ts.length (rulesCells (anyRow ts))
  size : w0.heap.size ≤ w.heap.size
theorem RAny.nil (w : World) : RAny w w (.slice none 0 0) [] := ⟨World.ownsRow_nil _ _ _ _, Nat.le_refl _⟩
theorem RAny.keeps {w0 w w' : World} {v : Value} {ts : List Int} (h : RAny w0 w v ts) (k : Keeps nobody w w') : RAny w0 w' v ts := ⟨ownsRow_keeps h.own k (fun _ _ h => h), Nat.le_trans h.size k.size⟩
/-- Another list of the law's own turns. -/
theorem RAny.far {w0 w w' : World} {v u : Value} {ts : List Int} (h : RAny w0 w v ts) (k : Keeps (fun b => u.ownBlock = some b) w w') (hd : ∀ b, v.ownBlock = some b → u.ownBlock ≠ some b) : RAny w0 w' v ts := ⟨ownsRow_keeps h.own k (fun b hb e => hd b hb e), Nat.le_trans h.size k.size⟩
theorem RAny.len {w0 w : World} {v : Value} {ts : List Int} (h : RAny w0 w v ts) : ts.length ≤ maxLen := (Row.of_own h.own).2.1
theorem RAny.form {w0 w : World} {v : Value} {ts : List Int} (h : RAny w0 w v ts) : ∃ A c, v = .slice A ts.length c := own_form h.own
theorem anyRow_of (ts : List Int) : rulesOf (anyRow ts) = ts.map Pure.anyRule := by
  simp [rulesOf, anyRow, Function.comp_def]
theorem RAny.row {w0 w : World} {v : Value} {ts : List Int} (h : RAny w0 w v ts) : RRow w (fun b => v.ownBlock = some b) v (anyRow ts) := by
  refine ⟨?_, fun p hp => ?_⟩
  · have := Row.of_own h.own
    have e : (anyRow ts).length = ts.length := by simp
    rw [e]; exact this
  · obtain ⟨t, _, rfl⟩ := List.mem_map.1 hp
    exact Row.nil _ _ _
theorem any_few {ts : List Int} (h : ts.length ≤ 1000) : FewRules (anyRow ts) := ⟨by simp; omega, fun p hp => by
  obtain ⟨t, _, rfl⟩ := List.mem_map.1 hp
  exact ⟨fun h1 _ => by have : (1 : Int) ≤ -1 := h1; omega, by simp [Pure.anyRule]⟩⟩
theorem RAny.more {w0 w w' : World} {v v' : Value} {ts : List Int} {t : Int} {n : Nat} (h : RAny w0 w v ts) (hn : n = ts.length) (ho : w'.ownsRow w0.heap.size 28 7 v' (n + 1) (rulesCells (anyRow ts ++ [(.slice none 0 0, Pure.anyRule t)]))) (k : Keeps (fun b => v.ownBlock = some b) w w') : RAny w0 w' v' (ts ++ [t]) := by
  refine ⟨?_, Nat.le_trans h.size k.size⟩
  have e : anyRow (ts ++ [t]) = anyRow ts ++ [(.slice none 0 0, Pure.anyRule t)] := by simp
  rw [e, List.length_append, List.length_singleton, ← hn]
  exact ho
/-- The law's own list turns, seen from the law's start. -/
theorem RAny.quiet {w0 w w' : World} {v : Value} {ts : List Int} (h : RAny w0 w v ts) (h0 : Keeps nobody w0 w) (k : Keeps (fun b => v.ownBlock = some b) w w') : Keeps nobody w0 w' :=
  h0.trans' k (fun i hi hl => by have := ownsRow_ge h.own i hi; omega)
theorem upto_snoc (k : Nat) : ((List.range (k + 1)).map fun t => ((t : Nat) : Int)) = ((List.range k).map fun t => ((t : Nat) : Int)) ++ [(k : Int)] := by rw [List.range_succ, List.map_append]; rfl
theorem small13_few {zs : List (Value × Pure.Opt)} (h : smallOpts (optsOf zs)) : FewOpts zs := by
  obtain ⟨h1, h2⟩ := h
  refine ⟨by simp at h1; omega, fun p hp => ?_⟩
  have := h2 p.2 (List.mem_map.2 ⟨p, hp, rfl⟩)
  omega
/-- New of rules that let pass, and of options of an argument: a negotiator, or none. -/
theorem new_any13 (Fu Fx : Nat → Prop) (xu x : Value) (ts : List Int) (zs : List (Value × Pure.Opt)) (tr ti : Nat) (W : World) (hu : RRow W Fu xu (anyRow ts)) (ht : ts.length ≤ 1000) (hx : ORow W Fx x zs) (hF : ∀ b, Fx b → b < W.heap.size) (hm : mayBe tr ti) :
    Calls Tryz.prog 13 #[xu, x, .int .i64 (tr : Int), .int .i64 (ti : Int)] W fun e w' => (∃ g f R, Pure.Fine (optsOf zs) ∧ e = .returned (.tuple #[.pointer (some ⟨g, 0, none⟩), .int .i64 0]) ∧ NObj w' g R f (Pure.newNeg (ts.map Pure.anyRule) (optsOf zs) tr ti) ∧ W.heap.size ≤ g ∧ (W.heap.size ≤ f.gm ∧ f.gm.j = byRules g) ∧ (∀ b, R b → W.heap.size ≤ b) ∧ Keeps nobody W w') ∨
      (e = .returned (.tuple #[.pointer none, .int .i64 1]) ∧ Keeps nobody W w') := by
  by_cases hf : (Pure.options (optsOf zs)).1 = 0
  · refine (newneg_any Fu Fx xu x (anyRow ts) zs tr ti W hu hx hF (any_few ht) (Pure.fine_of hf) hm).mono ?_
    rintro e w' ⟨g, f, R, h1, h2, h3⟩
    rw [anyRow_of] at h2
    exact .inl ⟨g, f, R, Pure.fine_of hf, h1, h2, h3⟩
  · exact (newneg_bad Fu Fx xu x (anyRow ts) zs tr ti W hu hx hF hf hm).mono fun e w' h => .inr h
theorem all_upto : Pure.allRules = ((List.range 256).map fun t => ((t : Nat) : Int)).map Pure.anyRule := Pure.allRules_eq
theorem all_short : Pure.allRules.length ≤ 1000 := by rw [all_upto, List.length_map, List.length_map, List.length_range]; decide
end Go.Proofs.YtjomcffhbaplcaaGreatDoor
