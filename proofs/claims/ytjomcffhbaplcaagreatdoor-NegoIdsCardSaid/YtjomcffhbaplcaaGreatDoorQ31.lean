/- What chapter 13 says of a packet that came: why it is dropped, and what it leads to. Nothing of the program. -/
import Derived.Test.YtjomcffhbaplcaaGreatDoorQ30
import Derived.Test.YtjomcffhbaplcaaGreatDoorQ2
import Derived.Test.YtjomcffhbaplcaaGreatDoorQ3
namespace Go.Proofs.YtjomcffhbaplcaaGreatDoor
namespace Pure
def amid (l others : List Opt) : Bool := l.all fun o => others.any fun q => decide (o = q)
/-- Why a packet is dropped. -/
def Neg.refuses (n : Neg) (p : Pkt) : Prop :=
  n.m.state ≤ 1 ∨ (p.code = 1 ∧ (split p.data).1 ≠ 0) ∨
  ((p.code = 2 ∨ p.code = 3 ∨ p.code = 4) ∧ ((n.waits = false ∨ p.id ≠ n.asked) ∨ (split p.data).1 ≠ 0 ∨ (p.code = 2 ∧ (split p.data).2 ≠ (split n.ours).2) ∨ (p.code = 4 ∧ amid (split p.data).2 (split n.ours).2 = false))) ∨
  (p.code = 7 ∧ p.data = [])
/-- What a packet that is not dropped leads to. -/
def Neg.heedsBy (n : Neg) (p : Pkt) (j : Nat × List Opt) : Nat × Neg × Reply :=
  if p.code = 1 then (if j.1 = 2 then 6 else 7, n, ⟨p, j.1, j.2⟩)
  else if p.code = 2 then (8, { n with waits := false, acked := (split n.ours).2 }, ⟨p, 0, []⟩)
  else if p.code = 3 then (9, { n with waits := false, request := naked n.rules n.request (split p.data).2 }, ⟨p, 0, []⟩)
  else if p.code = 4 then (9, { n with waits := false, request := left n.rules n.request (split p.data).2 }, ⟨p, 0, []⟩)
  else if p.code = 5 then (10, n, ⟨p, 0, []⟩)
  else if p.code = 6 then (11, n, ⟨p, 0, []⟩)
  else if p.code = 7 then (if 1 ≤ (p.data.headD 0).toNat ∧ (p.data.headD 0).toNat ≤ 7 then 14 else 13, n, ⟨p, 0, []⟩)
  else (12, n, ⟨p, 0, []⟩)
/-- .. where it judges by its own rules. -/
def Neg.heeds (n : Neg) (p : Pkt) : Nat × Neg × Reply := n.heedsBy p (judge n.rules (split p.data).2 (decide (n.m.tries ≤ n.naks)))
def Neg.eventP (n : Neg) (e : Nat) (r : Option Reply) : Neg × Said := { n with m := (n.m.act2 e).2 }.actsP (n.m.act2 e).1 r
theorem actP_some (s : Neg × Said) (q : Reply) (hq : q.code ≠ 2) : ∀ a, negActP (some q) s a = negAct (some q) s a
  | 0 => rfl | 1 => rfl | 2 => rfl | 3 => rfl | 4 => rfl | 5 => rfl | 6 => rfl
  | 7 => by show sendAnswerP s (some q) = sendAnswer s (some q); unfold sendAnswerP sendAnswer; simp only [if_neg hq]
  | 8 => by show sendAnswerP s (some q) = sendAnswer s (some q); unfold sendAnswerP sendAnswer; simp only [if_neg hq]
  | 9 => rfl | 10 => rfl | 11 => rfl
  | _ + 12 => rfl
theorem eventP_plain (n : Neg) (e : Nat) (q : Reply) (hq : q.code ≠ 2) : n.eventP e (some q) = n.event e (some q) := by
  have h : negActP (some q) = negAct (some q) := funext fun s => funext fun a => actP_some s q hq a
  unfold Neg.eventP Neg.event Neg.actsP Neg.acts
  rw [h]
theorem eventP_zero (n : Neg) (e : Nat) (p : Pkt) : n.eventP e (some ⟨p, 0, []⟩) = n.event e (some ⟨p, 0, []⟩) := eventP_plain n e _ (show (0 : Nat) ≠ 2 by decide)
/-- A request that is acknowledged: where it is, what it asks is kept. -/
theorem eventP_acks {n : Neg} (hs : 2 ≤ n.m.state) (h9 : n.m.state ≤ 9) (q : Reply) (hq : q.code = 2) :
    n.eventP 6 (some q) = if (n.event 6 (some q)).1.m.state = 8 ∨ (n.event 6 (some q)).1.m.state = 9 then ({ (n.event 6 (some q)).1 with theirs := q.l }, (n.event 6 (some q)).2) else n.event 6 (some q) := by
  obtain ⟨p, code, l⟩ := q
  dsimp only at hq
  subst hq
  obtain ⟨rules, first, request, ⟨st, c, lf, t, u⟩, id, asked, naks, waits, acked, theirs, dropped, ours⟩ := n
  dsimp only at hs h9
  obtain rfl | rfl | rfl | rfl | rfl | rfl | rfl | rfl : st = 2 ∨ st = 3 ∨ st = 4 ∨ st = 5 ∨ st = 6 ∨ st = 7 ∨ st = 8 ∨ st = 9 := by omega
  · rw [if_neg (by rw [event_mach]; show ¬ ((2 : Nat) = 8 ∨ (2 : Nat) = 9); decide)]; rfl
  · rw [if_pos (by rw [event_mach]; exact .inl rfl)]; rfl
  · rw [if_neg (by rw [event_mach]; show ¬ ((4 : Nat) = 8 ∨ (4 : Nat) = 9); decide)]; rfl
  · rw [if_neg (by rw [event_mach]; show ¬ ((5 : Nat) = 8 ∨ (5 : Nat) = 9); decide)]; rfl
  · rw [if_pos (by rw [event_mach]; exact .inl rfl)]; rfl
  · rw [if_pos (by rw [event_mach]; exact .inr rfl)]; rfl
  · rw [if_pos (by rw [event_mach]; exact .inl rfl)]; rfl
  · rw [if_pos (by rw [event_mach]; exact .inl rfl)]; rfl
theorem judge_acks (rules : List Rule) (l : List Opt) (rejects : Bool) (h : (judge rules l rejects).1 = 2) : (judge rules l rejects).2 = l := by
  revert h
  unfold judge
  dsimp only
  by_cases h1 : (judgeTo rules rejects l l.length).1 ≠ []
  · rw [if_pos h1]; intro h; exact absurd h (show ¬ (4 : Nat) = 2 by decide)
  · rw [if_neg h1]
    generalize (if rejects = true then (judgeTo rules rejects l l.length).2 else needTo rules l (judgeTo rules rejects l l.length).2 rules.length) = nak
    by_cases h2 : nak ≠ []
    · rw [if_pos h2]; intro h; exact absurd h (show ¬ (3 : Nat) = 2 by decide)
    · rw [if_neg h2]; intro _; rfl
theorem judge_code (rules : List Rule) (l : List Opt) (rejects : Bool) : (judge rules l rejects).1 = 2 ∨ (judge rules l rejects).1 = 3 ∨ (judge rules l rejects).1 = 4 := by
  unfold judge
  dsimp only
  by_cases h1 : (judgeTo rules rejects l l.length).1 ≠ []
  · rw [if_pos h1]; exact .inr (.inr rfl)
  · rw [if_neg h1]
    generalize (if rejects = true then (judgeTo rules rejects l l.length).2 else needTo rules l (judgeTo rules rejects l l.length).2 rules.length) = nak
    by_cases h2 : nak ≠ []
    · rw [if_pos h2]; exact .inr (.inl rfl)
    · rw [if_neg h2]; exact .inl rfl
theorem input_refused {n : Neg} {p : Pkt} (hw : n.Well) (h : n.refuses p) : n.input p = n.drop := by
  unfold Neg.input
  by_cases hs : n.m.state ≤ 1
  · rw [if_pos hs]
  rw [if_neg hs]
  rcases h with h | ⟨h1, h2⟩ | ⟨h1, h2⟩ | ⟨h1, h2⟩
  · exact absurd h hs
  · rw [if_pos h1, if_pos h2]
  · have c1 : ¬ p.code = 1 := by omega
    rw [if_neg c1, if_pos h1]
    unfold Neg.answered
    by_cases ho : n.waits = false ∨ p.id ≠ n.asked
    · rw [if_pos ho]
    rw [if_neg ho]
    rcases h2 with h2 | h2 | ⟨h2, h3⟩ | ⟨h2, h3⟩
    · exact absurd h2 ho
    · by_cases c2 : p.code = 2
      · rw [if_pos c2, if_neg (fun e => h2 (by rw [e, ← hw.ours, fine_split hw.asked]))]
      · rw [if_neg c2, if_pos h2]
    · rw [if_pos h2, if_neg (fun e => h3 (by rw [e]))]
    · rw [if_neg (show ¬ p.code = 2 by omega)]
      by_cases hsp : (split p.data).1 ≠ 0
      · rw [if_pos hsp]
      · unfold amid at h3
        rw [if_neg hsp, if_pos h2, if_neg (fun e => by rw [e] at h3; cases h3)]
  · rw [if_neg (by omega), if_neg (by omega), if_neg (by omega), if_neg (by omega), if_pos h1, h2]
theorem input_heeded {n : Neg} {p : Pkt} (hw : n.Well) (h : ¬ n.refuses p) : n.input p = (n.heeds p).2.1.eventP (n.heeds p).1 (some (n.heeds p).2.2) := by
  have hs : ¬ n.m.state ≤ 1 := fun e => h (.inl e)
  have hs9 := hw.good.state
  unfold Neg.input Neg.heeds Neg.heedsBy
  rw [if_neg hs]
  by_cases c1 : p.code = 1
  · have hsp : ¬ (split p.data).1 ≠ 0 := fun e => h (.inr (.inl ⟨c1, e⟩))
    rw [if_pos c1, if_pos c1, if_neg hsp]
    unfold Neg.judged
    have hA := judge_acks n.rules (split p.data).2 (decide (n.m.tries ≤ n.naks))
    obtain ⟨k, a⟩ : ∃ j, j = judge n.rules (split p.data).2 (decide (n.m.tries ≤ n.naks)) := ⟨_, rfl⟩
    rw [← a] at hA ⊢
    dsimp only
    by_cases hk : k.1 = 2
    · have hA := hA hk
      rw [if_pos hk, eventP_acks (by omega) (by omega) _ hk]
      simp only [hk, true_and, hA]
    · rw [if_neg hk, eventP_plain _ _ _ hk]
      simp only [hk, false_and, if_false]
  rw [if_neg c1, if_neg c1]
  by_cases c2 : p.code = 2
  · have hn : ¬ (n.waits = false ∨ p.id ≠ n.asked) := fun e => h (.inr (.inr (.inl ⟨.inl c2, .inl e⟩)))
    have hsp : ¬ (split p.data).1 ≠ 0 := fun e => h (.inr (.inr (.inl ⟨.inl c2, .inr (.inl e)⟩)))
    have heq : (split p.data).2 = (split n.ours).2 := Classical.byContradiction fun e => h (.inr (.inr (.inl ⟨.inl c2, .inr (.inr (.inl ⟨c2, e⟩))⟩)))
    have hd : p.data = n.ours := by
      have h1 : split p.data = (0, (split p.data).2) := by rw [← show (split p.data).1 = 0 by omega]
      have h2 := options_split h1
      have h3 := hw.ours
      rw [← heq, h2] at h3
      exact h3
    rw [if_pos (.inl c2), if_pos c2]
    unfold Neg.answered
    rw [if_neg hn, if_pos c2, if_pos hd]
    dsimp only
    rw [eventP_zero]
  rw [if_neg c2]
  by_cases c3 : p.code = 3
  · have hn : ¬ (n.waits = false ∨ p.id ≠ n.asked) := fun e => h (.inr (.inr (.inl ⟨.inr (.inl c3), .inl e⟩)))
    have hsp : ¬ (split p.data).1 ≠ 0 := fun e => h (.inr (.inr (.inl ⟨.inr (.inl c3), .inr (.inl e)⟩)))
    rw [if_pos (.inr (.inl c3)), if_pos c3]
    unfold Neg.answered
    rw [if_neg hn, if_neg c2, if_neg hsp, if_neg (by omega)]
    dsimp only
    rw [eventP_zero]
  rw [if_neg c3]
  by_cases c4 : p.code = 4
  · have hn : ¬ (n.waits = false ∨ p.id ≠ n.asked) := fun e => h (.inr (.inr (.inl ⟨.inr (.inr c4), .inl e⟩)))
    have hsp : ¬ (split p.data).1 ≠ 0 := fun e => h (.inr (.inr (.inl ⟨.inr (.inr c4), .inr (.inl e)⟩)))
    have hin : amid (split p.data).2 (split n.ours).2 = true := by
      cases hx : amid (split p.data).2 (split n.ours).2
      · exact absurd (.inr (.inr (.inl ⟨.inr (.inr c4), .inr (.inr (.inr ⟨c4, hx⟩))⟩))) h
      · rfl
    unfold amid at hin
    rw [if_pos (.inr (.inr c4)), if_pos c4]
    unfold Neg.answered
    rw [if_neg hn, if_neg c2, if_neg hsp, if_pos c4, if_pos hin]
    dsimp only
    rw [eventP_zero]
  rw [if_neg c4, if_neg (by omega)]
  by_cases c5 : p.code = 5
  · rw [if_pos c5, if_pos c5]
    dsimp only
    rw [eventP_zero]
  rw [if_neg c5, if_neg c5]
  by_cases c6 : p.code = 6
  · rw [if_pos c6, if_pos c6]
    dsimp only
    rw [eventP_zero]
  rw [if_neg c6, if_neg c6]
  by_cases c7 : p.code = 7
  · rw [if_pos c7, if_pos c7]
    dsimp only
    rw [eventP_zero]
    have hne : p.data ≠ [] := fun e => h (.inr (.inr (.inr ⟨c7, e⟩)))
    cases hb : p.data with
    | nil => exact absurd hb hne
    | cons b r =>
      simp only [List.headD_cons]
      by_cases hq : 1 ≤ b.toNat ∧ b.toNat ≤ 7
      · rw [if_pos hq]; exact congrArg (fun e => n.event e (some ⟨p, 0, []⟩)) (if_pos hq).symm
      · rw [if_neg hq]; exact congrArg (fun e => n.event e (some ⟨p, 0, []⟩)) (if_neg hq).symm
  · rw [if_neg c7, if_neg c7]
    dsimp only
    rw [eventP_zero]
theorem wide_small {n k : Nat} (h : k ≤ 4) : (wide n k).length ≤ 253 := by rw [wide_length]; omega
/-- Behind a Nak the request is one that may be. -/
theorem fine_naked {rules : List Rule} {ask nak : List Opt} (ha : Fine ask) (hn : Fine nak) : Fine (naked rules ask nak) := by
  refine ⟨by unfold naked; rw [List.length_map]; exact ha.len, fun o ho => ?_⟩
  unfold naked at ho
  obtain ⟨x, hx, rfl⟩ := List.mem_map.1 ho
  have h0 := ha.odd x hx
  unfold nakedOne
  split
  · exact h0
  · rename_i p hp
    have hpn := hn.odd p (List.mem_of_find?_eq_some hp)
    split
    · exact h0
    · rename_i r hr
      unfold Opt.odd at h0 hpn ⊢
      split
      · dsimp only; omega
      · split
        · rename_i hc
          have := hc.2.1; have := hc.2.2.1
          dsimp only
          rw [wide_length]; omega
        · split
          · rename_i hc
            have := hc.2.1; have := hc.2.2.1
            dsimp only
            rw [wide_length]; omega
          · exact h0
theorem fine_left {rules : List Rule} {ask rej : List Opt} (ha : Fine ask) : Fine (left rules ask rej) := fine_filter ha _
theorem fine_of_split {b : List UInt8} (h : (split b).1 = 0) : Fine (split b).2 := by
  have h1 : split b = (0, (split b).2) := by rw [← h]
  have h2 := options_split h1
  exact fine_of (by rw [h2])
/-- What it is behind what it heeds. -/
theorem heeds_well {n : Neg} {p : Pkt} (hw : n.Well) (h : ¬ n.refuses p) (j : Nat × List Opt) : (n.heedsBy p j).2.1.Well := by
  have hsp : (p.code = 3 ∨ p.code = 4) → (split p.data).1 = 0 := fun hc => Classical.byContradiction fun e => h (.inr (.inr (.inl ⟨.inr hc, .inr (.inl e)⟩)))
  unfold Neg.heedsBy
  split
  · exact hw
  split
  · exact ⟨hw.good, hw.tries, hw.timeout, hw.id, hw.first, hw.request, hw.asked, hw.ours⟩
  split
  · rename_i c3
    exact ⟨hw.good, hw.tries, hw.timeout, hw.id, hw.first, fine_naked hw.request (fine_of_split (hsp (.inl c3))), hw.asked, hw.ours⟩
  split
  · exact ⟨hw.good, hw.tries, hw.timeout, hw.id, hw.first, fine_left hw.request, hw.asked, hw.ours⟩
  split
  · exact hw
  split
  · exact hw
  split <;> exact hw
end Pure
end Go.Proofs.YtjomcffhbaplcaaGreatDoor
/- errors.As of a *api.Fault at a **api.Fault: true, and the target is set. -/
namespace Go.Proofs.YtjomcffhbaplcaaGreatDoor
open Go.RowKit Go.Extern.Stop Go.Stop Go.Extern

/-- A reflectlite.Value's cells: of a **api.Fault whose variable is block b. -/
noncomputable abbrev asVal (b : Nat) : Array Value := #[.pointer (some ⟨hB, 164, none⟩), .pointer (some ⟨b, 0, none⟩), .int .u64 150]
noncomputable abbrev asW2 (w : World) (t : Addr) : World := (w.alloc (.cells #[.pointer (some t)] 164)).alloc (.cells (asVal w.heap.size) 173)
noncomputable abbrev asW3 (w : World) (t : Addr) : World := (asW2 w t).alloc (.cells (asVal w.heap.size) 173)
noncomputable abbrev asW4 (w : World) (t e : Addr) : World := (asW3 w t).alloc (.cells #[.pointer (some e)] 162)
theorem as_below4 (w : World) (t e : Addr) : Below w.heap.size w (asW4 w t e) :=
  ((((Below.refl w.heap.size w).alloc (Nat.le_refl _) _).alloc (by simp) _).alloc (by simp; omega) _).alloc (by simp; omega) _

set_option maxHeartbeats 4000000 in
theorem as_fault (e t : Addr) (old : Value) (w : World) (hg : Handle w) (ht : w.cell? t = some old) (hf : w.frozen? t = false) :
    Calls Tryz.prog 110 #[.iface 162 (.pointer (some e)), .iface 164 (.pointer (some t))] w fun ev w' => ev = .returned (.bool true) ∧
      w' = (asW4 w t e).setCell t (.pointer (some e)) := by
  have h1 := @run_callFunc_extern Tryz.prog 114 _ (fun args => ReflectliteValue.unpack (args.getD 0 (.tuple #[]))) Tryz.func114 (by kernel_rfl) (by kernel_rfl) (by kernel_rfl) (by kernel_rfl)
  have h2 := @run_callFunc_extern Tryz.prog 115 _ (ReflectliteValue.methodAny (ReflectliteValue.valueError "reflectlite.Value.Type" 0) (fun t _ _ _ => ReflectliteType.toType t)) Tryz.func115 (by kernel_rfl) (by kernel_rfl) (by kernel_rfl) (by kernel_rfl)
  have h3 := @run_callFunc_extern Tryz.prog 116 _ (ReflectliteValue.method (ReflectliteValue.valueError "reflectlite.Value.IsNil" 0) ReflectliteValue.isNil) Tryz.func116 (by kernel_rfl) (by kernel_rfl) (by kernel_rfl) (by kernel_rfl)
  have h4 := @run_callFunc_extern Tryz.prog 135 _ (ReflectliteType.abiMethod fun t => do pure (.int .u8 (← Rtype.kind t))) Tryz.func135 (by kernel_rfl) (by kernel_rfl) (by kernel_rfl) (by kernel_rfl)
  have h5 := @run_callFunc_extern Tryz.prog 146 _ (ReflectliteType.method ReflectliteType.elem) Tryz.func146 (by kernel_rfl) (by kernel_rfl) (by kernel_rfl) (by kernel_rfl)
  have h6 := @run_callFunc_extern Tryz.prog 147 _ (ReflectliteType.relation "Implements" ReflectliteType.implements_) Tryz.func147 (by kernel_rfl) (by kernel_rfl) (by kernel_rfl) (by kernel_rfl)
  have h7 := @run_callFunc_extern Tryz.prog 64 _ ReflectliteType.typeOf Tryz.func64 (by kernel_rfl) (by kernel_rfl) (by kernel_rfl) (by kernel_rfl)
  have h8 := @run_callFunc_extern Tryz.prog 144 _ (ReflectliteType.relation "AssignableTo" ReflectliteType.assignableTo) Tryz.func144 (by kernel_rfl) (by kernel_rfl) (by kernel_rfl) (by kernel_rfl)
  have h9 := @run_callFunc_extern Tryz.prog 119 _ (ReflectliteValue.method (ReflectliteValue.valueError "reflectlite.Value.Elem" 0) ReflectliteValue.elem) Tryz.func119 (by kernel_rfl) (by kernel_rfl) (by kernel_rfl) (by kernel_rfl)
  have h10 := @run_callFunc_extern Tryz.prog 120 _ ReflectliteValue.set Tryz.func120 (by kernel_rfl) (by kernel_rfl) (by kernel_rfl) (by kernel_rfl)
  have k1 := as_unpackT
  have k2 := as_typeT
  have k3 := as_mKind
  have k4 := as_mElem
  have k5 := as_mImpl
  have k6 := as_mAssign
  have k7 := as_kindT
  have k8 := as_kindE
  have k9 := as_elemT
  have k10 := as_implE
  have k11 := as_typeOfE
  have k12 := as_assignE
  have k13 := as_unpackE
  have hlt := hg.lt
  have htl : t.block < w.heap.size := by
    rcases Nat.lt_or_ge t.block w.heap.size with h | h
    · exact h
    · simp [World.cell?, Array.getElem?_eq_none h] at ht
  have g2 : (asW2 w t).cell? ⟨1, 0, none⟩ = some (.iface 131 (.agg #[.pointer (some ⟨hB, 84, none⟩)])) := by
    rw [World.cell?_alloc_lt _ _ ⟨1, 0, none⟩ (by simp <;> omega), World.cell?_alloc_lt _ _ ⟨1, 0, none⟩ hlt]; exact hg
  have n1 := as_isNil ⟨w.heap.size, 0, none⟩ t (asW2 w t) (by simp)
  have n2 := as_elemV ⟨w.heap.size, 0, none⟩ t (asW3 w t) (by rw [World.cell?_alloc_lt _ _ ⟨w.heap.size, 0, none⟩ (by simp; omega)]; simp)
  have n3 := as_set t ⟨w.heap.size + 1 + 1 + 1, 0, none⟩ e old (asW4 w t e)
    (by rw [World.cell?_alloc_at _ _ _ _ (by simp)]; rfl)
    (by rw [World.cell?_alloc_lt _ _ t (by simp; omega), World.cell?_alloc_lt _ _ t (by simp; omega), World.cell?_alloc_lt _ _ t (by simp; omega), World.cell?_alloc_lt _ _ t htl]; exact ht)
    (by rw [World.frozen?_alloc_old _ _ t (by simp; omega), World.frozen?_alloc_old _ _ t (by simp; omega), World.frozen?_alloc_old _ _ t (by simp; omega), World.frozen?_alloc_old _ _ t (Nat.ne_of_lt htl)]; exact hf)
  clear hg ht hf
  go_enter Tryz.func110, Tryz.ntmps110
  go_wp2
  refine wp_loop_rounds 1 ?_
  rw [rounds_succ]
  go_wp2
  go_ret
  exact ⟨rfl, rfl⟩
end Go.Proofs.YtjomcffhbaplcaaGreatDoor
/- Package fault: what an error tells (ErrIs), Of, Number. -/
namespace Go.Proofs.YtjomcffhbaplcaaGreatDoor
open Go.RowKit
/-- What an error of this package tells: nil, or a fault of that number. -/
def ErrIs (w : World) (v : Value) (k : Nat) : Prop :=
  (v = .nilIface ∧ k = 0) ∨ (k ≠ 0 ∧ ∃ b, v = .iface 162 (.pointer (some ⟨b, 0, none⟩)) ∧ w.cell? ⟨b, 1, none⟩ = some (.int .i64 k))
theorem ErrIs.keeps {S : Nat → Prop} {w w' : World} {v : Value} {k : Nat} (h : ErrIs w v k) (hk : Keeps S w w') (hS : ∀ b, ¬ S b) : ErrIs w' v k := by
  rcases h with h | ⟨h1, b, h2, h3⟩
  · exact .inl h
  · exact .inr ⟨h1, b, h2, (World.cell?_of_block (w := w) (a := ⟨b, 1, none⟩) (hk.block b (cell_lt h3) (hS b))).trans h3⟩

theorem of_any (s : ByteArray) (k : Nat) (w : World) (hk : k ≠ 0) : Calls Tryz.prog 108 #[.string s, .int .i64 k] w fun e w' => ∃ v, e = .returned v ∧ ErrIs w' v k ∧ Below w.heap.size w w' := by
  go_enter Tryz.func108, Tryz.ntmps108
  go_wp2
  go_ret
  exact ⟨_, rfl, .inr ⟨hk, w.heap.size, rfl, by simp⟩, (Below.refl _ _).alloc (Nat.le_refl _) _⟩

set_option maxHeartbeats 1000000 in
theorem number_any (v : Value) (k : Nat) (w : World) (hg : Handle w) (h : ErrIs w v k) : Calls Tryz.prog 102 #[v] w fun e w' => e = .returned (.int .i64 k) ∧ Below w.heap.size w w' := by
  have B1 := Lib.hid ((Below.refl w.heap.size w).alloc (Nat.le_refl _) (.cells #[.pointer none] 162))
  rcases h with ⟨rfl, rfl⟩ | ⟨h1, b, rfl, h3⟩
  · have HA := Lib.hid as_nil
    clear hg
    go_enter Tryz.func102, Tryz.ntmps102
    go_wp2_with fail
    refine (HA.out _ _).mono ?_
    rintro e w1 ⟨rfl, rfl⟩
    go_wp2
    go_ret
    exact ⟨rfl, B1.out⟩
  · have hb := cell_lt h3
    have hg1 : Handle (w.alloc (.cells #[.pointer none] 162)) := hg.below ((Below.refl w.heap.size w).alloc (Nat.le_refl _) _)
    have HA := Lib.hid (as_fault ⟨b, 0, none⟩ ⟨w.heap.size, 0, none⟩ (.pointer none) _ hg1 (by simp) (by simp))
    have k4 := as_below4 (w.alloc (.cells #[.pointer none] 162)) ⟨w.heap.size, 0, none⟩ ⟨b, 0, none⟩
    obtain ⟨W, hW⟩ : ∃ W, W = asW4 (w.alloc (.cells #[.pointer none] 162)) ⟨w.heap.size, 0, none⟩ ⟨b, 0, none⟩ := ⟨_, rfl⟩
    rw [← hW] at HA k4
    have hsz : (w.alloc (.cells #[.pointer none] 162)).heap.size = w.heap.size + 1 := by simp
    have hblk : Blk W w.heap.size 162 #[.pointer none] := (Blk.new w 162 #[.pointer none]).below k4 (by omega)
    have c0 : (W.setCell ⟨w.heap.size, 0, none⟩ (.pointer (some ⟨b, 0, none⟩))).cell? ⟨w.heap.size, 0, none⟩ = some (.pointer (some ⟨b, 0, none⟩)) := by
      rw [(hblk.set 0 _).cell]; rfl
    have hk : Keeps nobody w (W.setCell ⟨w.heap.size, 0, none⟩ (.pointer (some ⟨b, 0, none⟩))) :=
      ((Keeps.new ((B1.out).trans (k4.mono (by simp)))).store w.heap.size 0 (fun h => absurd h (by omega)) _)
    have c1 := (World.cell?_of_block (w := w) (a := ⟨b, 1, none⟩) (hk.block b hb (fun h => h))).trans h3
    have K := Lib.hid hk
    clear hg hg1 k4 hW hsz hblk hk h3
    go_enter Tryz.func102, Tryz.ntmps102
    go_wp2_with fail
    refine HA.out.mono ?_
    rintro e w1 ⟨rfl, rfl⟩
    go_wp2
    go_ret
    exact ⟨rfl, K.out.to_below⟩
end Go.Proofs.YtjomcffhbaplcaaGreatDoor
/- A piece of a row of bytes whose capacity may end where it begins. -/
namespace Go.Proofs.YtjomcffhbaplcaaGreatDoor
open Go.RowKit

/-- A piece of a row of bytes. -/
def cutV (a : Option Addr) (c lo m : Nat) : Value := if c = lo then .slice a m 0 else .slice (a.map (fun x => x.add lo)) m (c - lo)
theorem Row.cutV {w : World} {F : Nat → Prop} {a : Option Addr} {n c : Nat} {bs : List UInt8} (h : Row w F 1 (.slice a n c) n (u8s bs)) (lo m : Nat) (hm : lo + m ≤ n) :
    Row w F 1 (cutV a c lo m) m (u8s ((bs.drop lo).take m)) := by
  have e : u8s ((bs.drop lo).take m) = ((u8s bs).drop lo).take m := by simp
  rw [e]
  unfold Go.Proofs.YtjomcffhbaplcaaGreatDoor.cutV
  split
  · rename_i hc
    subst hc
    exact h.cutEnd m hm
  · exact h.cut1 lo m hm
theorem cut_value' (a : Option Addr) (c q m : Nat) : Value.slice (if c = q then a else Option.map (fun x => x.add q) a) m (c - q) = cutV a c q m := by
  unfold cutV
  by_cases h : c = q
  · rw [if_pos h, if_pos h, h, Nat.sub_self]
  · rw [if_neg h, if_neg h]
end Go.Proofs.YtjomcffhbaplcaaGreatDoor
/- Package packet's reader: take. -/
namespace Go.Proofs.YtjomcffhbaplcaaGreatDoor
open Go.RowKit
/-- A reader in block g whose rest is these bytes. -/
def Rd (w : World) (F : Nat → Prop) (g : Nat) (l : List UInt8) : Prop := ∃ v, Blk w g 151 #[v] ∧ Row w F 1 v l.length (u8s l)
theorem Rd.keeps {S F : Nat → Prop} {w w' : World} {g : Nat} {l : List UInt8} (h : Rd w F g l) (k : Keeps S w w') (hg : ¬ S g) (hs : ∀ b, F b → ¬ S b) : Rd w' F g l := by
  obtain ⟨v, hb, hr⟩ := h
  exact ⟨v, hb.keeps k hg, hr.keeps k hs⟩
theorem take_short (F : Nat → Prop) (g n : Nat) (l : List UInt8) (w : World) (hrd : Rd w F g l) (h : l.length < n) (_ : n ≤ 100000) :
    Calls Tryz.prog 118 #[.pointer (some ⟨g, 0, none⟩), .int .i64 n] w fun e w' => ∃ u, e = .returned (.tuple #[.slice none 0 0, u]) ∧ ErrIs w' u 2 ∧ Keeps nobody w w' := by
  obtain ⟨v, hb, hr⟩ := hrd
  obtain ⟨A, c, rfl, hc⟩ := hr.form
  have hm := hr.2.1
  unfold maxLen at hm
  have c0 : w.cell? ⟨g, 0, none⟩ = some (.slice A l.length c) := by rw [hb.cell]; rfl
  have d0 : decide (l.length < n) = true := decide_eq_true h
  have HO := Lib.hid (fun s => of_any s 2 w (by omega))
  clear hb hr h
  go_enter Tryz.func118, Tryz.ntmps118
  go_wp2_with fail
  refine (HO.out _).mono ?_
  rintro e w1 ⟨u, rfl, hu, hb1⟩
  have HU := Lib.hid hu
  have HB1 := Lib.hid (Keeps.new hb1)
  clear hu hb1 HO c0
  go_wp2
  go_ret2
  exact ⟨u, rfl, HU.out, HB1.out⟩
theorem take_ok (F : Nat → Prop) (g n : Nat) (l : List UInt8) (w : World) (hrd : Rd w F g l) (hF : ∀ b, F b → b ≠ g) (h : n ≤ l.length) :
    Calls Tryz.prog 118 #[.pointer (some ⟨g, 0, none⟩), .int .i64 n] w fun e w' => ∃ v, e = .returned (.tuple #[v, .nilIface]) ∧ Row w' F 1 v n (u8s (l.take n)) ∧ Rd w' F g (l.drop n) ∧ Keeps (only g) w w' := by
  obtain ⟨v, hb, hr⟩ := hrd
  obtain ⟨A, c, rfl, hc⟩ := hr.form
  have hm := hr.2.1
  unfold maxLen at hm
  have c0 : w.cell? ⟨g, 0, none⟩ = some (.slice A l.length c) := by rw [hb.cell]; rfl
  have f0 := hb.frozen 0
  have d0 : decide (l.length < n) = false := decide_eq_false (by omega)
  have q1 : (n : Int) ≤ (l.length : Int) := by omega
  have q2 : (n : Int) ≤ (c : Int) := by omega
  have q3 : n ≤ c := by omega
  have HR := Lib.hid hr
  have HB := Lib.hid hb
  have HF := Lib.hid hF
  clear hb hr hF
  go_enter Tryz.func118, Tryz.ntmps118
  go_wp2_with fail
  all_goals
    go_ret2
    have hk := (Keeps.refl (only g) w).store g 0 (fun _ => rfl)
    have ht := HR.out.take1 n (by omega)
    have hcut := HR.out.cutV n (l.length - n) (by omega)
    rw [List.take_of_length_le (by simp)] at hcut
    unfold cutV at hcut
    by_cases hcn : c = n
    · rw [if_pos hcn] at hcut
      subst hcn
      refine ⟨_, rfl, ht.keeps (hk _) HF.out, ⟨_, HB.out.set 0 _, ?_⟩, hk _⟩
      rw [List.length_drop]
      first | exact hcut.keeps (hk _) HF.out | exact absurd rfl h
    · rw [if_neg hcn] at hcut
      refine ⟨_, rfl, ?_, ⟨_, HB.out.set 0 _, ?_⟩, hk _⟩
      · first | exact ht.keeps (hk _) HF.out | exact absurd h hcn
      · rw [List.length_drop]
        first | exact hcut.keeps (hk _) HF.out | exact absurd h hcn
end Go.Proofs.YtjomcffhbaplcaaGreatDoor
/- Package packet: number; next. -/
namespace Go.Proofs.YtjomcffhbaplcaaGreatDoor
open Go.RowKit
namespace Pure
/-- The number that bytes encode, the most significant first. -/
def num (l : List UInt8) : Nat := l.foldl (fun n x => n * 256 + x.toNat) 0
theorem num_snoc (l : List UInt8) (x : UInt8) : num (l ++ [x]) = num l * 256 + x.toNat := by simp [num]
theorem num_lt : ∀ (l : List UInt8), l.length ≤ 2 → num l < 65536
  | [], _ => by decide
  | [a], _ => by have := a.toNat_lt; simp [num]; omega
  | [a, b], _ => by have := a.toNat_lt; have := b.toNat_lt; simp [num]; omega
  | _ :: _ :: _ :: _, h => by simp at h
theorem num_lt1 : ∀ (l : List UInt8), l.length ≤ 1 → num l < 256
  | [], _ => by decide
  | [a], _ => by have := a.toNat_lt; simp [num]; omega
  | _ :: _ :: _, h => by simp at h
/-- The length that the head of size bytes states. -/
def told (size len : Nat) (l : List UInt8) : Nat := num ((l.take size).drop (size - len))
/-- What is wrong with the head and the data at the front of bytes, or nothing. -/
def nextErr (size len : Nat) (l : List UInt8) : Nat := if l.length < size then 2 else if told size len l < size then 4 else if l.length < told size len l then 2 else 0
end Pure
set_option maxRecDepth 100000 in
set_option maxHeartbeats 2000000 in
theorem pnum_any (F : Nat → Prop) (x : Value) (n : Nat) (l : List UInt8) (w : World) (hr : Row w F 1 x n (u8s l)) (hl : l.length ≤ 2) :
    Calls Tryz.prog 87 #[x] w fun e w' => e = .returned (.int .i64 (Pure.num l : Nat)) ∧ w = w' := by
  obtain ⟨A, c, rfl, hc⟩ := hr.form
  have hn : n = l.length := by have := hr.1; simp at this; omega
  subst hn
  have HR := Lib.hid hr
  have HT := Lib.hid (fun (k : Nat) (h : k ≤ l.length) => Pure.num_lt (l.take k) (by rw [List.length_take]; omega))
  clear hr
  go_enter Tryz.func87, Tryz.ntmps87
  go_wp2_with fail
  go_loopw [3, 8] (fun v i wr => ∃ k : Nat, k ≤ l.length ∧ i = .int .i64 (k : Int) ∧ v = .int .i64 (Pure.num (l.take k) : Nat) ∧ wr = w) (fun _ i _ => l.length - (intOf i).toNat)
  case atStart => exact ⟨0, by omega, rfl, rfl, rfl⟩
  case round =>
    obtain ⟨k, hk, rfl, rfl, rfl⟩ := hrel
    by_cases hkl : k < l.length
    · have i0 : (0 : Int) ≤ (k : Int) := by omega
      have i1 : (k : Int) < (l.length : Int) := by omega
      obtain ⟨b, off, rfl, _, hcx⟩ := HR.out.cellAt (by omega)
      have b0 := hcx k _ (u8s_at l k hkl)
      have hx := (l.getD k 0).toNat_lt
      have hN := HT.out k hk
      have hsn : Pure.num (l.take (k + 1)) = Pure.num (l.take k) * 256 + (l.getD k 0).toNat := by
        rw [List.take_succ_eq_append_getElem hkl, Pure.num_snoc]
        simp [List.getD_eq_getElem?_getD, hkl]
      have hM := HT.out (k + 1) (by omega)
      obtain ⟨N, hN'⟩ : ∃ N, N = Pure.num (l.take k) := ⟨_, rfl⟩
      obtain ⟨M, hM'⟩ : ∃ N, N = Pure.num (l.take (k + 1)) := ⟨_, rfl⟩
      obtain ⟨X, hX⟩ : ∃ N, N = (l.getD k 0).toNat := ⟨_, rfl⟩
      rw [← hN', ← hM', ← hX] at hsn
      rw [← hN'] at hN ⊢
      rw [← hM'] at hM
      rw [← hX] at b0 hx
      have hN4 : N < 256 := by omega
      have eor : bits .or .i64 ((N : Int) * 256) (X : Int) = (M : Int) := by
        have h := i64_or_nat (N * 256) X (by omega) (by omega)
        rw [show N * 256 ||| X = M by rw [hsn, show (256 : Nat) = 2 ^ 8 by rfl, ← Nat.shiftLeft_eq, Nat.shiftLeft_add_eq_or_of_lt (show X < 2 ^ 8 by omega)]] at h
        simpa using h
      have HM := Lib.hid hM'
      clear hcx hN' hM' hX hsn hN hM
      go_wp2_with fail
      go_roundw
      case rel => exact ⟨k + 1, by omega, by go_num, by rw [← HM.out], trivial⟩
      case measure => simp [intOf]; omega
    · have hkk : k = l.length := by omega
      have HE := Lib.hid (show Pure.num (l.take k) = Pure.num l by rw [hkk, List.take_length])
      subst hkk
      clear hkl hk
      go_wp2
      go_ret
      exact ⟨by rw [← HE.out]; rfl, rfl⟩
end Go.Proofs.YtjomcffhbaplcaaGreatDoor
