/- Package lcp: a link as it lies; negotiator, made, State, opened, Dropped, Mine, Peer, down. -/
import Derived.Test.YtmgicbckgpdkcaaGreatDoorC24
import Derived.Test.YtmgicbckgpdkcaaGreatDoorC23
namespace Go.Proofs.YtmgicbckgpdkcaaGreatDoor
set_option maxRecDepth 100000
set_option maxHeartbeats 8000000
open _root_.Go.Lib renaming hid → xhd
open Go.RowKit
abbrev byLink (l : Nat) : Value := .func (.func 68) #[.pointer (some ⟨l, 0, none⟩)] #[]
abbrev yag (g : Nat) (c : Pure.Cfg) (nm sc : ByteArray) (rv : Value) : List Value := .pointer (some ⟨g, 0, none⟩) :: (y0d c nm sc ++ [rv])
def LBlk (w : World) (l g : Nat) (c : Pure.Cfg) (nm sc : ByteArray) (rv : Value) : Prop := Blk w l 125 (yag g c nm sc rv).toArray
theorem LBlk.cell {w : World} {l g : Nat} {c : Pure.Cfg} {nm sc : ByteArray} {rv : Value} (h : LBlk w l g c nm sc rv) (j : Nat) : w.cell? ⟨l, j, none⟩ = (yag g c nm sc rv)[j]? := by
 have : Blk w l 125 (yag g c nm sc rv).toArray := h
 rw [this.cell, List.getElem?_toArray]
theorem LBlk.keeps {S : Nat → Prop} {w w' : World} {l g : Nat} {c : Pure.Cfg} {nm sc : ByteArray} {rv : Value} (h : LBlk w l g c nm sc rv) (k : Keeps S w w') (hs : ¬ S l) : LBlk w' l g c nm sc rv := Blk.keeps h k hs
theorem LBlk.lt {w : World} {l g : Nat} {c : Pure.Cfg} {nm sc : ByteArray} {rv : Value} (h : LBlk w l g c nm sc rv) : l < w.heap.size := Blk.lt h
theorem run_judge (args : Array Value) (w : World) : Sem.run Tryz.prog (callFunc 68 args) w = .ok (.enter 68 args) w := y70 Tryz.func68 (by kernel_rfl) rfl args w
theorem yem (v : Value) (w : World) : (binOp .neq 129 (.func (.func 68) #[v] #[]) .nilFunc).run Tryz.prog w = .ok (.bool true) w := by kernel_rfl
structure LF where
 l : Nat
 g : Nat
 gm : Nat
 nm : ByteArray
 sc : ByteArray
 rv : Value
structure LObj (w : World) (k : LF) (R : Nat → Prop) (f : NF) (x : Pure.Lcp) : Prop where
 blk : LBlk w k.l k.g x.c k.nm k.sc k.rv
 obj : NObj w k.g R f x.n
 gm : f.gm = ⟨k.gm, byLink k.l⟩
 rules : ∃ us, RRow w R k.rv us ∧ y08 us = x.n.rules ∧ FewRules us
 same : x.n.rules = x.c.rules
 fine : x.c.fine = true
 accm : x.c.accm < 4294967296
 nl : ¬ R k.l
 lg : k.l ≠ k.g
 lm : k.l ≠ k.gm
theorem LObj.gm' {w : World} {k : LF} {R : Nat → Prop} {f : NF} {x : Pure.Lcp} (h : LObj w k R f x) : f.gm.m = k.gm := by rw [h.gm]
theorem LObj.keeps {w w' : World} {k : LF} {R S : Nat → Prop} {f : NF} {x : Pure.Lcp} (h : LObj w k R f x) (K : Keeps S w w') (hl : ¬ S k.l) (hg : ¬ S k.g) (hm : ¬ S k.gm) (hs : ∀ b, R b → ¬ S b) : LObj w' k R f x := by
 obtain ⟨us, r1, r2, r3⟩ := h.rules
 exact ⟨h.blk.keeps K hl, h.obj.keeps K hg (by rw [h.gm']; exact hm) hs, h.gm, ⟨us, r1.keeps K hs, r2, r3⟩, h.same, h.fine, h.accm, h.nl, h.lg, h.lm⟩
theorem LObj.quiet {w w' : World} {k : LF} {R : Nat → Prop} {f : NF} {x : Pure.Lcp} (h : LObj w k R f x) (K : Keeps y01 w w') : LObj w' k R f x := h.keeps K (fun e => e) (fun e => e) (fun e => e) (fun _ _ e => e)
def y1k (w w' : World) (k : LF) (R : Nat → Prop) (x : Pure.Lcp) : Prop :=
 ∃ f' R', LObj w' k R' f' x ∧ (∀ b, R' b → R b ∨ w.heap.size ≤ b) ∧ Keeps (fun b => b = k.g ∨ b = k.gm) w w'
theorem LObj.turned {w w' : World} {k : LF} {R : Nat → Prop} {f : NF} {x : Pure.Lcp} {n' : Pure.Neg} (h : LObj w k R f x) (hr : n'.rules = x.n.rules) (hb : y18 w w' k.g R f n') : y1k w w' k R { x with n := n' } := by
 obtain ⟨f', R', hn, hgm, hsub, K⟩ := hb
 obtain ⟨us, r1, r2, r3⟩ := h.rules
 have hll := h.blk.lt
 have K2 : Keeps (fun b => b = k.g ∨ b = k.gm) w w' := by rw [h.gm'] at K; exact K
 have hS : ∀ b, R b → ¬ (b = k.g ∨ b = k.gm) := fun b hb e => by
  rcases e with e | e
  ·exact h.obj.ng (e ▸ hb)
  ·exact h.obj.nm (by rw [h.gm', ← e]; exact hb)
 refine ⟨f', fun b => (R' b ∨ R b) ∧ b < w'.heap.size, ⟨h.blk.keeps K2 (fun e => e.elim h.lg h.lm), ?_, hgm.trans h.gm, ⟨us, (r1.keeps K2 hS).mono (fun b hb => ⟨.inr hb, Nat.lt_of_lt_of_le (h.obj.lt b hb) K.size⟩), by rw [r2]; exact hr.symm, r3⟩, hr.trans h.same, h.fine, h.accm, ?_, h.lg, h.lm⟩, ?_, K2⟩
 ·obtain ⟨vs, s1, s2, s3⟩ := hn.rules
  have hsub2 : ∀ b, R' b → (R' b ∨ R b) ∧ b < w'.heap.size := fun b hb => ⟨.inl hb, hn.lt b hb⟩
  refine ⟨hn.blk, hn.mach, hn.well, hn.e1, hn.e2, hn.e3, hn.e4, hn.e5, hn.e6, ⟨vs, s1.mono hsub2, s2, s3⟩, hn.first.mono hsub2, hn.request.mono hsub2, hn.aopts.mono hsub2, hn.mine.mono hsub2, hn.given.mono hsub2, fun b hb => hb.2, ?_, ?_, hn.ne⟩
  ·rintro ⟨e | e, _⟩
   ·exact hn.ng e
   ·exact h.obj.ng e
  ·rintro ⟨e | e, _⟩
   ·exact hn.nm e
   ·rw [hgm] at e; exact h.obj.nm e
 ·rintro ⟨e | e, _⟩
  ·rcases hsub _ e with e | e
   ·exact h.nl e
   ·omega
  ·exact h.nl e
 ·rintro b ⟨e | e, _⟩
  ·exact hsub b e
  ·exact .inl e
theorem LObj.stays {w w' : World} {k : LF} {R : Nat → Prop} {f : NF} {x : Pure.Lcp} (h : LObj w k R f x) (K : Keeps y01 w w') : y1k w w' k R x :=
 ⟨f, R, h.quiet K, fun _ hb => .inl hb, K.mono (fun _ e => e.elim)⟩
section
variable {w : World} {k : LF} {R : Nat → Prop} {f : NF} {x : Pure.Lcp}
theorem y1y (h : LObj w k R f x) : Calls Tryz.prog 70 #[.pointer (some ⟨k.l, 0, none⟩)] w fun e w' => e = .returned (.pointer (some ⟨k.g, 0, none⟩)) ∧ w = w' := by
 have c0 : w.cell? ⟨k.l, 0, none⟩ = some (.pointer (some ⟨k.g, 0, none⟩)) := h.blk.cell 0
 clear h
 go_enter Tryz.func70, Tryz.ntmps70
 go_wp2_with fail
 go_ret
 exact ⟨rfl, rfl⟩
theorem y8o (h : LObj w k R f x) : Calls Tryz.prog 87 #[.pointer (some ⟨k.l, 0, none⟩)] w fun e w' => e = .returned (.bool true) ∧ w = w' := by
 have HN := xhd (y1y h)
 clear h
 go_enter Tryz.func87, Tryz.ntmps87
 go_wp2_with fail
 refine HN.out.mono ?_
 rintro e w1 ⟨rfl, rfl⟩
 go_wp2_with fail
 go_ret
 exact ⟨rfl, rfl⟩
theorem y2l (h : LObj w k R f x) : Calls Tryz.prog 40 #[.pointer (some ⟨k.l, 0, none⟩)] w fun e w' => e = .returned (.int .i64 (x.n.m.state : Nat)) ∧ w = w' := by
 have HN := xhd (y1y h)
 have HS := xhd (y7z k.g R f x.n w h.obj)
 clear h
 go_enter Tryz.func40, Tryz.ntmps40
 go_wp2_with fail
 refine HN.out.mono ?_
 rintro e w1 ⟨rfl, rfl⟩
 go_wp2_with fail
 refine HS.out.mono ?_
 rintro e w1 ⟨rfl, rfl⟩
 go_wp2_with fail
 go_ret
 exact ⟨rfl, rfl⟩
theorem y76 (h : LObj w k R f x) : Calls Tryz.prog 90 #[.pointer (some ⟨k.l, 0, none⟩)] w fun e w' => e = .returned (.bool (decide (x.n.m.state = 9))) ∧ w = w' := by
 have HST := xhd (y2l h)
 clear h
 by_cases hs : x.n.m.state = 9
 ·have HD := xhd (decide_eq_true hs)
  rw [hs] at HST
  clear hs
  go_enter Tryz.func90, Tryz.ntmps90
  go_wp2_with fail
  refine HST.out.mono ?_
  rintro e w1 ⟨rfl, rfl⟩
  go_wp2_with fail
  go_ret
  exact ⟨by rw [HD.out]; rfl, rfl⟩
 ·have HD := xhd (decide_eq_false hs)
  have q : (((x.n.m.state : Nat) : Int) == 9) = false := by rw [beq_eq_false_iff_ne]; omega
  clear hs
  go_enter Tryz.func90, Tryz.ntmps90
  go_wp2_with fail
  refine HST.out.mono ?_
  rintro e w1 ⟨rfl, rfl⟩
  go_wp2_with fail
  go_ret
  exact ⟨by rw [HD.out]; rfl, rfl⟩
theorem ldown_any (h : LObj w k R f x) : Calls Tryz.prog 130 #[.pointer (some ⟨k.l, 0, none⟩)] w fun e w' => e = .returned (.bool (decide (x.n.m.state ≤ 1))) ∧ w = w' := by
 have HST := xhd (y2l h)
 clear h
 by_cases h0 : x.n.m.state = 0
 ·have HD := xhd (decide_eq_true (show x.n.m.state ≤ 1 by omega))
  rw [h0] at HST
  clear h0
  go_enter Tryz.func130, Tryz.ntmps130
  go_wp2_with fail
  refine HST.out.mono ?_
  rintro e w1 ⟨rfl, rfl⟩
  go_wp2_with fail
  go_ret
  exact ⟨by rw [HD.out]; rfl, rfl⟩
 by_cases h1 : x.n.m.state = 1
 ·have HD := xhd (decide_eq_true (show x.n.m.state ≤ 1 by omega))
  rw [h1] at HST
  clear h0 h1
  go_enter Tryz.func130, Tryz.ntmps130
  go_wp2_with fail
  refine HST.out.mono ?_
  rintro e w1 ⟨rfl, rfl⟩
  go_wp2_with fail
  go_ret
  exact ⟨by rw [HD.out]; rfl, rfl⟩
 ·have HD := xhd (decide_eq_false (show ¬ x.n.m.state ≤ 1 by omega))
  have q0 : (((x.n.m.state : Nat) : Int) == 0) = false := by rw [beq_eq_false_iff_ne]; omega
  have q1 : (((x.n.m.state : Nat) : Int) == 1) = false := by rw [beq_eq_false_iff_ne]; omega
  clear h0 h1
  go_enter Tryz.func130, Tryz.ntmps130
  go_wp2_with fail
  refine HST.out.mono ?_
  rintro e w1 ⟨rfl, rfl⟩
  go_wp2_with fail
  go_ret
  exact ⟨by rw [HD.out]; rfl, rfl⟩
end
namespace Pure
theorem yfo (r : Option Reply) (s : Neg × Said) (a : Nat) : (negActP r s a).1.naks ≤ s.1.naks + 1 ∧ (negActP r s a).2.send.length ≤ s.2.send.length + 1 ∧ (negActP r s a).1.rules = s.1.rules ∧ (negActP r s a).1.dropped = s.1.dropped := by
 unfold negActP
 split
 ·exact ⟨by simp, by simp, rfl, rfl⟩
 ·exact ⟨by simp, by simp, rfl, rfl⟩
 ·exact ⟨by simp [Neg.again], by simp, rfl, rfl⟩
 ·exact ⟨by simp, by simp, rfl, rfl⟩
 ·exact ⟨by simp [y60], by simp [y60, Said.more], rfl, rfl⟩
 ·cases r with
  | none => exact ⟨by simp [y16], by simp [y16], rfl, rfl⟩
  | some q => exact ⟨by simp only [y16]; split <;> omega, by simp [y16, Said.more], rfl, rfl⟩
 ·cases r with
  | none => exact ⟨by simp [y16], by simp [y16], rfl, rfl⟩
  | some q => exact ⟨by simp only [y16]; split <;> omega, by simp [y16, Said.more], rfl, rfl⟩
 ·exact ⟨by simp [sendOwn], by simp [sendOwn, Said.more], rfl, rfl⟩
 ·cases r with
  | none => exact ⟨by simp [y40, sendOwn], by simp [y40, sendOwn, Said.more], rfl, rfl⟩
  | some q =>
   simp only [y40]
   split
   ·exact ⟨by simp, by simp [Said.more], rfl, rfl⟩
   ·exact ⟨by simp [sendOwn], by simp [sendOwn, Said.more], rfl, rfl⟩
 ·cases r with
  | none => exact ⟨by simp [y3f], by simp [y3f], rfl, rfl⟩
  | some q => exact ⟨by simp [y3f, sendOwn], by simp [y3f, sendOwn, Said.more], rfl, rfl⟩
 ·exact ⟨by simp, by simp, rfl, rfl⟩
theorem yeu (r : Option Reply) (l : List Nat) : ∀ s : Neg × Said, (l.foldl (negActP r) s).1.naks ≤ s.1.naks + l.length ∧ (l.foldl (negActP r) s).2.send.length ≤ s.2.send.length + l.length ∧ (l.foldl (negActP r) s).1.rules = s.1.rules ∧ (l.foldl (negActP r) s).1.dropped = s.1.dropped := by
 induction l with
 | nil => intro s; exact ⟨by simp, by simp, rfl, rfl⟩
 | cons a l ih =>
  intro s
  rw [List.foldl_cons, List.length_cons]
  obtain ⟨a1, a2, a3, a4⟩ := yfo r s a
  obtain ⟨b1, b2, b3, b4⟩ := ih (negActP r s a)
  exact ⟨by omega, by omega, b3.trans a3, b4.trans a4⟩
end Pure
namespace Pure
theorem by_13 {n : Neg} (hg : n.m.Good) (h9 : n.m.state = 9) (p : Pkt) : n.by 13 p = (n, mute) := by
 obtain ⟨rules, first, request, ⟨st, c, lf, t, u⟩, id, asked, naks, waits, acked, theirs, dropped, ours⟩ := n
 have hl := hg.rest (.inr h9)
 dsimp only at h9 hl
 subst h9 hl
 rfl
theorem by_15 {n : Neg} (hg : n.m.Good) (p : Pkt) : n.by 15 p = (n, mute) := by
 obtain ⟨rules, first, request, ⟨st, c, lf, t, u⟩, id, asked, naks, waits, acked, theirs, dropped, ours⟩ := n
 have h9 := hg.state
 have hl := hg.rest
 dsimp only at h9 hl
 obtain rfl | rfl | rfl | rfl | rfl | rfl | rfl | rfl | rfl | rfl : st = 0 ∨ st = 1 ∨ st = 2 ∨ st = 3 ∨ st = 4 ∨ st = 5 ∨ st = 6 ∨ st = 7 ∨ st = 8 ∨ st = 9 := by omega
 ·have := hl (.inl (by decide)); subst this; rfl
 ·have := hl (.inl (by decide)); subst this; rfl
 ·have := hl (.inl (by decide)); subst this; rfl
 ·have := hl (.inl (by decide)); subst this; rfl
 ·rfl
 ·rfl
 ·rfl
 ·rfl
 ·rfl
 ·have := hl (.inr rfl); subst this; rfl
theorem input_rej {n : Neg} (h9 : n.m.state = 9) (p : Pkt) : n.input ⟨7, 0, [1]⟩ = n.by 14 p := by
 obtain ⟨rules, first, request, ⟨st, c, lf, t, u⟩, id, asked, naks, waits, acked, theirs, dropped, ours⟩ := n
 dsimp only at h9
 subst h9
 rfl
def Lcp.verdict (x : Lcp) (l : List Opt) (rejects : Bool) : Nat × List Opt :=
 if (readVals (split x.n.ours).2).magic = 0 ∨ (readVals l).magic ≠ (readVals (split x.n.ours).2).magic then judge x.n.rules l rejects else looped x.n.rules l rejects (readVals (split x.n.ours).2).magic
def Lcp.passes (x : Lcp) (p : Pkt) : Prop := (p.code = 9 ∧ (x.n.m.state ≤ 1 ∨ p.data.length < 4)) ∨ (p.code = 8 ∧ (p.data.length < 2 ∨ x.n.m.state ≠ 9)) ∨ ((p.code = 10 ∨ p.code = 11) ∧ x.n.m.state ≠ 9)
theorem lcp_drop {x : Lcp} {p : Pkt} (h : x.passes p) : x.input p = x.with x.n.drop := by
 unfold Lcp.input
 by_cases h1 : x.n.m.state ≤ 1
 ·rw [if_pos h1]
 rw [if_neg h1]
 rcases h with ⟨h, h2⟩ | ⟨h, h2⟩ | ⟨h, h2⟩
 ·rw [if_neg (by omega), if_neg (by omega), if_pos h, if_pos (by omega)]
 ·rw [if_neg (by omega), if_pos h, if_pos (by omega)]
 ·rw [if_neg (by omega), if_neg (by omega), if_neg (by omega), if_pos h, if_neg h2]
theorem lcp_echo {x : Lcp} {p : Pkt} (hg : x.n.m.Good) (hc : p.code = 9) (h : ¬ x.passes p) : x.input p = (x, .of (if x.n.m.state = 9 then ⟨[⟨10, p.id, wide x.mine.magic 4 ++ p.data.drop 4⟩], false, false, false, false⟩ else mute)) := by
 unfold Lcp.passes at h
 have h1 : ¬ x.n.m.state ≤ 1 := fun e => h (.inl ⟨hc, .inl e⟩)
 have h2 : ¬ p.data.length < 4 := fun e => h (.inl ⟨hc, .inr e⟩)
 unfold Lcp.input
 rw [if_neg h1, if_neg (by omega), if_neg (by omega), if_pos hc, if_neg h2, by_15 hg]
 by_cases h9 : x.n.m.state = 9
 ·rw [if_pos h9, if_pos h9]; rfl
 ·rw [if_neg h9, if_neg h9]; rfl
theorem lcp_mute {x : Lcp} {p : Pkt} (hc : p.code = 10 ∨ p.code = 11) (h : ¬ x.passes p) : x.input p = (x, .of mute) := by
 unfold Lcp.passes at h
 have h9 : x.n.m.state = 9 := Classical.byContradiction fun e => h (.inr (.inr ⟨hc, e⟩))
 unfold Lcp.input
 rw [if_neg (by omega), if_neg (by omega), if_neg (by omega), if_neg (by omega), if_pos hc, if_pos h9]
theorem lcp_rejected {x : Lcp} {p : Pkt} (hg : x.n.m.Good) (hc : p.code = 8) (h : ¬ x.passes p) : x.input p = if bnum (p.data.take 2) = 49185 then x.with (x.n.input ⟨7, 0, [1]⟩) else (x, ⟨mute, bnum (p.data.take 2)⟩) := by
 unfold Lcp.passes at h
 have h9 : x.n.m.state = 9 := Classical.byContradiction fun e => h (.inr (.inl ⟨hc, .inr e⟩))
 have h2 : ¬ p.data.length < 2 := fun e => h (.inr (.inl ⟨hc, .inl e⟩))
 unfold Lcp.input
 rw [if_neg (by omega), if_neg (by omega), if_pos hc, if_neg (by omega), input_rej h9 p, by_13 hg h9]
theorem judgedAs_P {n : Neg} (hs : 2 ≤ n.m.state) (h9 : n.m.state ≤ 9) (p : Pkt) (l : List Opt) (j : Nat × List Opt) (hj : j.1 = 2 → j.2 = l) :
  n.judgedAs p l j = n.eventP (if j.1 = 2 then 6 else 7) (some ⟨p, j.1, j.2⟩) := by
 unfold Neg.judgedAs
 by_cases h2 : j.1 = 2
 ·rw [if_pos h2, y9r hs h9 ⟨p, j.1, j.2⟩ h2]
  dsimp only
  rw [hj h2]
  by_cases h3 : (n.event 6 (some ⟨p, j.1, l⟩)).1.m.state = 8 ∨ (n.event 6 (some ⟨p, j.1, l⟩)).1.m.state = 9
  ·rw [if_pos ⟨h2, h3⟩, if_pos h3]
  ·rw [if_neg (fun e => h3 e.2), if_neg h3]
 ·rw [if_neg h2, y65 n 7 ⟨p, j.1, j.2⟩ h2]
  dsimp only
  rw [if_neg (fun e => h2 e.1)]
theorem yg2 (rules : List Rule) (l : List Opt) (rejects : Bool) (m : Nat) : (looped rules l rejects m).1 ≠ 2 := by
 unfold looped
 by_cases h : (judge rules l rejects).1 = 4
 ·rw [if_pos h, h]; decide
 ·rw [if_neg h]
  cases rejects
  ·exact (show (3 : Nat) ≠ 2 by decide)
  ·exact (show (4 : Nat) ≠ 2 by decide)
theorem yfj (x : Lcp) (l : List Opt) (rejects : Bool) (h : (x.verdict l rejects).1 = 2) : (x.verdict l rejects).2 = l := by
 revert h
 unfold Lcp.verdict
 split
 ·exact yb5 _ _ _
 ·intro h; exact absurd h (yg2 _ _ _ _)
theorem lcp_refused {x : Lcp} {p : Pkt} (hw : x.n.Well) (hc : p.code < 8 ∨ 11 < p.code) (h : x.n.refuses p) : x.input p = x.with x.n.drop := by
 unfold Lcp.input
 by_cases h1 : x.n.m.state ≤ 1
 ·rw [if_pos h1]
 rw [if_neg h1]
 by_cases c1 : p.code = 1
 ·rw [if_pos c1]
  unfold Lcp.request
  have hs : (split p.data).1 ≠ 0 := by
   rcases h with h | ⟨_, h⟩ | ⟨h, _⟩ | ⟨h, _⟩
   ·exact absurd h h1
   ·exact h
   ·omega
   ·omega
  rw [if_pos hs]
 ·rw [if_neg c1, if_neg (by omega), if_neg (by omega), if_neg (by omega), input_refused hw h]
theorem lcp_heeded {x : Lcp} {p : Pkt} (hw : x.n.Well) (hc : p.code < 8 ∨ 11 < p.code) (h : ¬ x.n.refuses p) :
  x.input p = x.with ((x.n.heedsBy p (x.verdict (split p.data).2 (decide (x.n.m.tries ≤ x.n.naks)))).2.1.eventP (x.n.heedsBy p (x.verdict (split p.data).2 (decide (x.n.m.tries ≤ x.n.naks)))).1 (some (x.n.heedsBy p (x.verdict (split p.data).2 (decide (x.n.m.tries ≤ x.n.naks)))).2.2)) := by
 have h1 : ¬ x.n.m.state ≤ 1 := fun e => h (.inl e)
 unfold Lcp.input
 rw [if_neg h1]
 by_cases c1 : p.code = 1
 ·have hs : (split p.data).1 = 0 := Classical.byContradiction fun e => h (.inr (.inl ⟨c1, e⟩))
  rw [if_pos c1]
  have e : x.n.heedsBy p (x.verdict (split p.data).2 (decide (x.n.m.tries ≤ x.n.naks))) = (if (x.verdict (split p.data).2 (decide (x.n.m.tries ≤ x.n.naks))).1 = 2 then 6 else 7, x.n, ⟨p, (x.verdict (split p.data).2 (decide (x.n.m.tries ≤ x.n.naks))).1, (x.verdict (split p.data).2 (decide (x.n.m.tries ≤ x.n.naks))).2⟩) := by
   unfold Neg.heedsBy
   rw [if_pos c1]
  rw [e]
  dsimp only
  rw [← judgedAs_P (by omega) hw.good.state p (split p.data).2 _ (yfj x _ _)]
  congr 1
  unfold Lcp.request
  rw [if_neg (by omega)]
  unfold Lcp.verdict
  by_cases hm : (readVals (split x.n.ours).2).magic = 0 ∨ (readVals (split p.data).2).magic ≠ (readVals (split x.n.ours).2).magic
  ·rw [if_pos hm, if_pos hm, y6t]
  ·rw [if_neg hm, if_neg hm]
 ·rw [if_neg c1, if_neg (by omega), if_neg (by omega), if_neg (by omega), yf4 hw h]
  have e : ∀ j, x.n.heedsBy p j = x.n.heeds p := fun j => by unfold Neg.heeds Neg.heedsBy; rw [if_neg c1, if_neg c1]
  rw [e]
end Pure
namespace Pure
theorem y9s (n : Neg) (e : Nat) (r : Option Reply) : (n.event e r).1.rules = n.rules := (y5v r _ ({ n with m := (n.m.act2 e).2 }, mute)).rules
theorem act_rules (n : Neg) (e : Int) : (n.act e).1.rules = n.rules := by
 unfold Neg.act
 split
 ·rfl
 split
 ·exact y9s n.again 0 none
 ·exact y9s n e.toNat none
theorem eventP_rules (n : Neg) (e : Nat) (r : Option Reply) : (n.eventP e r).1.rules = n.rules := (yeu r (n.m.act2 e).1 ({ n with m := (n.m.act2 e).2 }, mute)).2.2.1
end Pure
theorem y35 : (Tryz.prog.info? 61).map (·.size) = some 6 := by kernel_rfl
def y3g (w w' : World) (v : Value) (o : Pure.LSaid) : Prop :=
 ∃ sv, ∃ ps : List (Value × Pure.Pkt), v = .agg #[sv, .bool o.said.up, .bool o.said.down, .bool o.said.start, .bool o.said.done, .int .i64 (o.reject : Int)] ∧ PRow w' (fun b => w.heap.size ≤ b ∧ b < w'.heap.size) sv ps ∧ ps.map Prod.snd = o.said.send ∧ ps.length ≤ 100
abbrev y23 : List Value := [.slice none 0 0, .bool false, .bool false, .bool false, .bool false, .int .i64 0]
section
variable {w : World} {k : LF} {R : Nat → Prop} {f : NF} {x : Pure.Lcp}
theorem y3o (h : LObj w k R f x) : Calls Tryz.prog 42 #[.pointer (some ⟨k.l, 0, none⟩)] w fun e w' => e = .returned (y0n x.mine) ∧ Keeps y01 w w' := by
 have HI := xhd y1s
 obtain ⟨ro, hro⟩ : ∃ q, q = w.heap.size := ⟨_, rfl⟩
 obtain ⟨w1, hw1⟩ : ∃ q, q = w.alloc (.cells #[.int .i64 0, .int .i64 0, .int .u32 0, .bool false, .bool false, .bool false, .bool false, .int .u32 0] 39) := ⟨_, rfl⟩
 have hk1 : Keeps y01 w w1 := by rw [hw1]; exact (Keeps.refl _ w).alloc _
 have HO := xhd (show Blk w1 ro 39 #[.int .i64 0, .int .i64 0, .int .u32 0, .bool false, .bool false, .bool false, .bool false, .int .u32 0] by rw [hw1, hro]; exact Blk.new w _ _)
 have h1 := h.quiet hk1
 have HMD := xhd (y8o h1)
 have HMI := xhd (nmine_any k.g R f x.n w1 h1.obj)
 have c0 : w1.cell? ⟨k.l, 0, none⟩ = some (.pointer (some ⟨k.g, 0, none⟩)) := h1.blk.cell 0
 have HK1 := xhd hk1
 have HRO := xhd hro
 clear h hk1 h1
 go_enter Tryz.func42, Tryz.ntmps42
 go_upto_region 1 with fail
 rw [← hro, ← hw1]
 clear hw1 hro
 go_wp2_with fail
 refine HMD.out.mono ?_
 rintro e w2 ⟨rfl, rfl⟩
 go_wp2_with fail
 refine HMI.out.mono ?_
 rintro e w2 ⟨u, qs, rfl, hqs, _, hrow, hk2⟩
 have hre := y5l _ u qs w2 hrow
 rw [hqs] at hre
 have HRE := xhd hre
 have HK2 := xhd hk2
 obtain ⟨U, cu, rfl, _⟩ := hrow.form
 clear hre hqs hrow hk2 c0 HMD HMI
 go_wp2_with fail
 refine HRE.out.mono ?_
 rintro e w3 ⟨rfl, hk3⟩
 have hO3 := HO.out.keeps (HK2.out.trans hk3) (fun e => e)
 obtain ⟨V, hV⟩ : ∃ q, q = Pure.readVals x.n.mine := ⟨_, rfl⟩
 rw [← hV]
 have o0 : w3.cell? ⟨ro, 0, none⟩ = some (.int .i64 0) := by rw [hO3.cell]; rfl
 have p0 := hO3.frozen 0
 have o1 : w3.cell? ⟨ro, 1, none⟩ = some (.int .i64 0) := by rw [hO3.cell]; rfl
 have p1 := hO3.frozen 1
 have o2 : w3.cell? ⟨ro, 2, none⟩ = some (.int .u32 0) := by rw [hO3.cell]; rfl
 have p2 := hO3.frozen 2
 have o3 : w3.cell? ⟨ro, 3, none⟩ = some (.bool false) := by rw [hO3.cell]; rfl
 have p3 := hO3.frozen 3
 have o4 : w3.cell? ⟨ro, 4, none⟩ = some (.bool false) := by rw [hO3.cell]; rfl
 have p4 := hO3.frozen 4
 have o5 : w3.cell? ⟨ro, 5, none⟩ = some (.bool false) := by rw [hO3.cell]; rfl
 have p5 := hO3.frozen 5
 have o6 : w3.cell? ⟨ro, 6, none⟩ = some (.bool false) := by rw [hO3.cell]; rfl
 have p6 := hO3.frozen 6
 have o7 : w3.cell? ⟨ro, 7, none⟩ = some (.int .u32 0) := by rw [hO3.cell]; rfl
 have p7 := hO3.frozen 7
 have HZ := xhd ((((((((hO3.set 0 (.int .i64 (V.mru : Int))).set 1 (.int .i64 (V.mrru : Int))).set 2 (.int .u32 (V.accm : Int))).set 3 (.bool V.auth)).set 4 (.bool V.pfc)).set 5 (.bool V.acfc)).set 6 (.bool V.short)).set 7 (.int .u32 (V.magic : Int)))
 have HKF := xhd (((HK1.out.trans HK2.out).trans hk3).trans' (((((((((Keeps.refl (only ro) w3).put 0 (.int .i64 (V.mru : Int))).put 1 (.int .i64 (V.mrru : Int))).put 2 (.int .u32 (V.accm : Int))).put 3 (.bool V.auth)).put 4 (.bool V.pfc)).put 5 (.bool V.acfc)).put 6 (.bool V.short)).put 7 (.int .u32 (V.magic : Int))) (fun i hi hl => by have e : i = ro := hi; have := HRO.out; omega))
 have HV := xhd hV
 clear hO3 hk3 hV
 go_wp2_with fail
 refine bodyPost_ret (y07 rfl _ _ ro 39 _ (0, 0) _ rfl HZ.out Tryz.underlying39 rfl (by rw [HI.out]; rfl)) rfl ?_
 exact ⟨by show _ = Ending.returned (y0n (Pure.readVals x.n.mine)); rw [← HV.out]; rfl, HKF.out⟩
theorem y56 (h : LObj w k R f x) (e : Int) (he : e = 0 ∨ e = 1 ∨ e = 2 ∨ e = 3) (hnk : x.n.naks ≤ 1000) :
  Calls Tryz.prog 28 #[.pointer (some ⟨k.l, 0, none⟩), .int .i64 e] w fun r w' => ∃ v, r = .returned v ∧ y3g w w' v (x.act e).2 ∧ y1k w w' k R (x.act e).1 := by
 have HI := xhd y35
 obtain ⟨ro, hro⟩ : ∃ q, q = w.heap.size := ⟨_, rfl⟩
 obtain ⟨w1, hw1⟩ : ∃ q, q = w.alloc (.cells y23.toArray 61) := ⟨_, rfl⟩
 have hk1 : Keeps y01 w w1 := by rw [hw1]; exact (Keeps.refl _ w).alloc _
 have HO := xhd (show Blk w1 ro 61 y23.toArray by rw [hw1, hro]; exact Blk.new w _ _)
 have h1 := h.quiet hk1
 have HN := xhd (y1y h1)
 have hgl := h.obj.blk.lt
 have hml := Blk.lt h.obj.mach
 have HRG := xhd (show ro ≠ k.g by omega)
 have HRM := xhd (show ro ≠ f.gm by omega)
 have HNR := xhd (show ¬ R ro from fun e => by have := h.obj.lt ro e; omega)
 have HRL := xhd (show ro < w1.heap.size from HO.out.lt)
 have HR0 := xhd (show w.heap.size ≤ ro by omega)
 have HH := xhd h
 have HK1 := xhd hk1
 have HCALL := xhd (show Calls Tryz.prog 71 #[.pointer (some ⟨k.g, 0, none⟩), .int .i64 e] w1 fun r w' => ∃ v, r = .returned v ∧ Outs w1 w' v (x.n.act e).2 ∧ y18 w1 w' k.g R f (x.n.act e).1 from by
  rcases he with rfl | he
  ·exact do_up k.g R f x.n w1 h1.obj
  ·exact do_other k.g R f x.n e he w1 h1.obj hnk)
 clear he hnk
 clear h hk1 h1 hgl hml
 go_enter Tryz.func28, Tryz.ntmps28
 go_upto_region 1 with fail
 rw [← hro]
 rw [show w.alloc (.cells #[.slice none 0 0, .bool false, .bool false, .bool false, .bool false, .int .i64 0] 61) = w1 from hw1.symm]
 clear hw1 hro
 go_wp2_with fail
 refine HN.out.mono ?_
 rintro e' w2 ⟨rfl, rfl⟩
 go_wp2_with fail
 refine HCALL.out.mono ?_
 rintro e' w5 ⟨v, rfl, hout, hbec⟩
 clear HCALL HN
 have hRo : Blk w5 ro 61 y23.toArray := by
  obtain ⟨_, _, _, _, _, hk⟩ := hbec
  exact HO.out.keeps hk (fun e => by rcases e with e | e; exact HRG.out e; exact HRM.out e)
 have hfar := fun w'' (K : Keeps (only ro) w5 w'') => (hout.far K HRL.out).since HK1.out.size
 have hcl := fun w'' (K : Keeps (only ro) w5 w'') => hbec.close (f := f) rfl (fun b hb => .inl hb) (HK1.out.mono (fun _ e => e.elim)) K HR0.out HRL.out (fun e => HRG.out e.symm) (fun e => HRM.out e.symm) HNR.out
 obtain ⟨sv, ps, rfl, hprow, hpk, hfw⟩ := hout
 obtain ⟨A6, c6, rfl, _⟩ := hprow.form
 have z0 : w5.cell? ⟨ro, 0, none⟩ = some (.slice none 0 0) := by rw [hRo.cell]; rfl
 have f0 := hRo.frozen 0
 have z1 : w5.cell? ⟨ro, 1, none⟩ = some (.bool false) := by rw [hRo.cell]; rfl
 have f1 := hRo.frozen 1
 have z2 : w5.cell? ⟨ro, 2, none⟩ = some (.bool false) := by rw [hRo.cell]; rfl
 have f2 := hRo.frozen 2
 have z3 : w5.cell? ⟨ro, 3, none⟩ = some (.bool false) := by rw [hRo.cell]; rfl
 have f3 := hRo.frozen 3
 have z4 : w5.cell? ⟨ro, 4, none⟩ = some (.bool false) := by rw [hRo.cell]; rfl
 have f4 := hRo.frozen 4
 have z5 : w5.cell? ⟨ro, 5, none⟩ = some (.int .i64 0) := by rw [hRo.cell]; rfl
 have f5 := hRo.frozen 5
 obtain ⟨O1, hO1⟩ : ∃ b, b = ((x.n.act e).2).up := ⟨_, rfl⟩
 obtain ⟨O2, hO2⟩ : ∃ b, b = ((x.n.act e).2).down := ⟨_, rfl⟩
 obtain ⟨O3, hO3⟩ : ∃ b, b = ((x.n.act e).2).start := ⟨_, rfl⟩
 obtain ⟨O4, hO4⟩ : ∃ b, b = ((x.n.act e).2).done := ⟨_, rfl⟩
 rw [← hO1, ← hO2, ← hO3, ← hO4] at hfar ⊢
 have HZ := xhd ((((((hRo.set 0 (.slice A6 ps.length c6)).set 1 (.bool O1)).set 2 (.bool O2)).set 3 (.bool O3)).set 4 (.bool O4)).set 5 (.int .i64 0))
 have KR := (((((((Keeps.refl (only ro) w5).put 0 (.slice A6 ps.length c6)).put 1 (.bool O1)).put 2 (.bool O2)).put 3 (.bool O3)).put 4 (.bool O4)).put 5 (.int .i64 0))
 have HFAR := xhd (hfar _ KR)
 have HCL := xhd (HH.out.turned (Pure.act_rules x.n e) (hcl _ KR))
 have HO1 := xhd hO1
 have HO2 := xhd hO2
 have HO3 := xhd hO3
 have HO4 := xhd hO4
 clear hRo hfar hcl hprow hpk hfw KR hO1 hO2 hO3 hO4 hbec
 go_wp2_with fail
 refine bodyPost_ret (y07 rfl _ _ ro 61 _ (0, 0) _ rfl HZ.out Tryz.underlying61 rfl (by rw [HI.out]; rfl)) rfl ?_
 obtain ⟨sv', ps', e', hp', hs', hf'⟩ := HFAR.out
 injection e' with e'
 have e0 : sv' = .slice A6 ps.length c6 := by
  have := congrArg (fun a => a[0]?) e'
  simpa using this.symm
 subst e0
 refine ⟨_, rfl, ⟨_, ps', ?_, hp', hs', hf'⟩, HCL.out⟩
 show Value.agg _ = Value.agg #[_, .bool ((x.n.act e).2).up, .bool ((x.n.act e).2).down, .bool ((x.n.act e).2).start, .bool ((x.n.act e).2).done, .int .i64 0]
 rw [← HO1.out, ← HO2.out, ← HO3.out, ← HO4.out]
 rfl
end
theorem y4f (V : Pure.Vals) (w : World) : (Instr.field 39 (y0n V) 7).run Tryz.prog w = .ok (.int .u32 (V.magic : Int)) w := by kernel_rfl
theorem read_one {w0 w : World} (A : Option Addr) (c n : Nat) (t : Int) (l : List UInt8) (hn : n = l.length) (K : Keeps y01 w0 w) (hr : Row w (fun b => w0.heap.size ≤ b) 1 (.slice A n c) n (u8s l)) :
  Read w0 (w.alloc (.cells #[.int .i64 t, .slice A n c] 31)) (.slice (some ⟨w.heap.size, 0, none⟩) 1 1) [(.slice A n c, (t, l))] := by
 subst hn
 have K1 : Keeps y01 w (w.alloc (.cells #[.int .i64 t, .slice A l.length c] 31)) := (Keeps.refl _ w).alloc _
 refine ⟨⟨rfl, .inr ⟨w.heap.size, 1, #[.int .i64 t, .slice A l.length c], rfl, K.size, Blk.new w _ _, by simp, by unfold maxLen; omega, by simp, by simp⟩⟩, fun p hp => ?_, (K.trans K1).to_below⟩
 rw [List.mem_singleton.1 hp]
 exact ((hr.strongN (by omega)).keeps K1 (fun _ _ e => e)).mono (fun b hb => ⟨hb.1, fun e => by have e : some w.heap.size = some b := e; injection e with e; have := hb.2; omega, Nat.lt_of_lt_of_le hb.2 K1.size⟩)
theorem yaj (l : List Pure.Opt) : (Pure.readVals l).magic < 4294967296 := by
 have : ∀ (l : List Pure.Opt) (v : Pure.Vals), v.magic < 4294967296 → (l.foldl Pure.readOne v).magic < 4294967296 := by
  intro l
  induction l with
  | nil => intro v h; exact h
  | cons o l ih =>
   intro v h
   refine ih _ ?_
   unfold Pure.readOne
   split
   ·exact h
   split
   ·exact h
   split
   ·exact h
   split
   ·rename_i hc
    exact Pure.bnum_small (by omega)
   split
   ·exact h
   split
   ·exact h
   split
   ·exact h
   split <;> exact h
 exact this l _ (by show (0 : Nat) < 4294967296; decide)
theorem y8s (m : Nat) : Pure.nextMagic m < 4294967296 := by
 unfold Pure.nextMagic
 split <;> omega
section
variable {w : World} {k : LF} {R : Nat → Prop} {f : NF} {x : Pure.Lcp}
theorem ljudge_any (h : LObj w k R f x) (Fz : Nat → Prop) (u : Value) (zs : List (Value × Pure.Opt)) (B : Bool) (hz : ORow w Fz u zs) (hfz : Pure.Fine (y02 zs)) :
  Calls Tryz.prog 68 #[.pointer (some ⟨k.l, 0, none⟩), u, .bool B] w fun e w' => Judged w e w' (x.verdict (y02 zs) B) := by
 obtain ⟨us, hu, hue, hfu⟩ := h.rules
 obtain ⟨U, cu, hU, _⟩ := hu.form
 obtain ⟨X, cx, rfl, _⟩ := hz.form
 have c0 : w.cell? ⟨k.l, 0, none⟩ = some (.pointer (some ⟨k.g, 0, none⟩)) := h.blk.cell 0
 have c19 : w.cell? ⟨k.l, 19, none⟩ = some k.rv := h.blk.cell 19
 rw [hU] at hu c19
 have HJU := xhd (judge_any R Fz _ _ us zs B w hu hz hfu (y2r hfz))
 obtain ⟨own, hown⟩ : ∃ q, q = (Pure.readVals (Pure.split x.n.ours).2).magic := ⟨_, rfl⟩
 obtain ⟨m, hm⟩ : ∃ q, q = (Pure.readVals (y02 zs)).magic := ⟨_, rfl⟩
 obtain ⟨J, hJ⟩ : ∃ q, q = Pure.judge x.n.rules (y02 zs) B := ⟨_, rfl⟩
 have HV := xhd (show x.verdict (y02 zs) B = if own = 0 ∨ m ≠ own then J else if J.1 = 4 then J else if B then (4, [(5, Pure.wide own 4)]) else (3, [(5, Pure.wide (Pure.nextMagic own) 4)]) by
  unfold Pure.Lcp.verdict Pure.looped
  rw [← hown, ← hm, ← hJ])
 have HML := xhd (show m < 4294967296 from hm ▸ yaj _)
 have HOL := xhd (show own < 4294967296 from hown ▸ yaj _)
 have HM := xhd hm
 have HOW := xhd hown
 have HJE := xhd (show Pure.judge (y08 us) (y02 zs) B = J by rw [hue, hJ])
 have HZ := xhd hz
 have HH := xhd h
 obtain ⟨jc, hjc⟩ : ∃ q, q = J.1 := ⟨_, rfl⟩
 have HJC := xhd hjc
 clear h hu hue hfu hU hz hfz hown hm hJ hjc
 go_enter Tryz.func68, Tryz.ntmps68
 go_wp2_with fail
 refine HJU.out.mono ?_
 rintro e w2 ⟨A2, c2, qs, rfl, hqs, hrd⟩
 have hk2 : Keeps y01 w w2 := Keeps.new hrd.below
 have HQS := xhd (show y02 qs = J.2 by rw [hqs, HJE.out])
 have HRD := xhd hrd
 have HK2 := xhd hk2
 rw [HJE.out, ← HJC.out]
 have hre := y5l Fz (.slice X zs.length cx) zs w2 (HZ.out.keeps hk2 (fun _ _ e => e))
 have HRE := xhd hre
 have c0 := y04 c0 hk2
 clear hqs hrd hk2 hre HJU c19
 go_wp2_with fail
 refine HRE.out.mono ?_
 rintro e w3 ⟨rfl, hk3⟩
 obtain ⟨V, hV⟩ : ∃ q, q = Pure.readVals (y02 zs) := ⟨_, rfl⟩
 rw [← hV]
 have hfld := y4f V w3
 rw [show V.magic = m by rw [hV, HM.out]] at hfld
 have HK3 := xhd (HK2.out.trans hk3)
 have HRD3 := xhd (HRD.out.keeps hk3)
 have c0 := y04 c0 hk3
 have HMV := xhd (show V.magic = m by rw [hV, HM.out])
 clear hk3 HRE HRD HK2 hV
 go_upto_region 3 with fail
 clear hfld
 by_cases h4 : jc = 4
 ·have HF := xhd (show (if own = 0 ∨ m ≠ own then J else if J.1 = 4 then J else if B then (4, [(5, Pure.wide own 4)]) else (3, [(5, Pure.wide (Pure.nextMagic own) 4)])) = J by rw [if_pos (show J.1 = 4 by rw [← HJC.out]; exact h4)]; exact ite_self _)
  have q4 : (((jc : Nat) : Int) == 4) = true := by rw [beq_iff_eq]; omega
  clear h4
  go_wp2_with fail
  go_ret2
  rw [HV.out, HF.out]
  exact ⟨A2, c2, qs, by rw [← HJC.out]; rfl, HQS.out, HRD3.out⟩
 have q4 : (((jc : Nat) : Int) == 4) = false := by rw [beq_eq_false_iff_ne]; omega
 by_cases h0 : m = 0
 ·have HF := xhd (show (if own = 0 ∨ m ≠ own then J else if J.1 = 4 then J else if B then (4, [(5, Pure.wide own 4)]) else (3, [(5, Pure.wide (Pure.nextMagic own) 4)])) = J by rw [if_pos (by omega)])
  have q0 : (((m : Nat) : Int) == 0) = true := by rw [beq_iff_eq]; omega
  clear h4 h0
  go_wp2_with fail
  go_ret2
  rw [HV.out, HF.out]
  exact ⟨A2, c2, qs, by rw [← HJC.out]; rfl, HQS.out, HRD3.out⟩
 have q0 : (((m : Nat) : Int) == 0) = false := by rw [beq_eq_false_iff_ne]; omega
 have has := asked_any k.g R f x.n w3 (HH.out.obj.keeps HK3.out (fun e => e) (fun e => e) (fun _ _ e => e))
 have HAS := xhd has
 have H4 := xhd h4
 have H0 := xhd h0
 clear has h4 h0
 go_wp2_with fail
 refine HAS.out.mono ?_
 rintro e w4 ⟨uo, qo, rfl, hqo, _, hro, hk4⟩
 have hre := y5l _ uo qo w4 hro
 rw [hqo] at hre
 obtain ⟨UO, cuo, rfl, _⟩ := hro.form
 have HRE := xhd hre
 have HK4 := xhd (HK3.out.trans hk4)
 have HRD4 := xhd (HRD3.out.keeps hk4)
 clear hre hqo hro hk4 HAS HK3 HRD3 c0
 go_wp2_with fail
 refine HRE.out.mono ?_
 rintro e w5 ⟨rfl, hk5⟩
 obtain ⟨V2, hV2⟩ : ∃ q, q = Pure.readVals (Pure.split x.n.ours).2 := ⟨_, rfl⟩
 rw [← hV2]
 have hfld := y4f V2 w5
 rw [show V2.magic = own by rw [hV2, HOW.out]] at hfld
 have HMV2 := xhd (show V2.magic = own by rw [hV2, HOW.out])
 have HK5 := xhd (HK4.out.trans hk5)
 have HRD5 := xhd (HRD4.out.keeps hk5)
 clear hk5 HRE HRD4 HK4 hV2
 by_cases hne : m = own
 ·have HF := xhd (show (if own = 0 ∨ m ≠ own then J else if J.1 = 4 then J else if B then (4, [(5, Pure.wide own 4)]) else (3, [(5, Pure.wide (Pure.nextMagic own) 4)])) = if B then (4, [(5, Pure.wide own 4)]) else (3, [(5, Pure.wide (Pure.nextMagic own) 4)]) by
   rw [if_neg (by have := H0.out; omega), if_neg (by rw [← HJC.out]; exact H4.out)])
  subst hne
  have qn : (((m : Nat) : Int) != ((m : Nat) : Int)) = false := by simp
  have eM : wrap64 ((m : Nat) : Int) = ((m : Nat) : Int) := IntWalk.wrap64_in _ (by have := HOL.out; omega)
  cases B
  ·have eN : wrap64 ((Pure.nextMagic m : Nat) : Int) = ((Pure.nextMagic m : Nat) : Int) := IntWalk.wrap64_in _ (by have := y8s m; omega)
   have hnx := lnext_any m HOL.out w5
   have hop : Calls Tryz.prog 52 #[.int .i64 5, .int .i64 ((Pure.nextMagic m : Nat) : Int)] w5 fun e w' => ∃ A c, e = .returned (.agg #[.int .i64 5, .slice A 4 c]) ∧ Row w' (fun b => w5.heap.size ≤ b) 1 (.slice A 4 c) 4 (u8s (Pure.wide (Pure.nextMagic m) 4)) ∧ Keeps y01 w5 w' := y5f 5 (Pure.nextMagic m) (y8s m) w5
   obtain ⟨N, hN⟩ : ∃ q, q = Pure.nextMagic m := ⟨_, rfl⟩
   rw [← hN] at hnx hop eN
   have HN := xhd hN
   have HNX := xhd hnx
   have HOP := xhd hop
   clear hN hnx hop
   go_wp2_with fail
   refine HNX.out.mono ?_
   rintro e w6 ⟨rfl, rfl⟩
   go_wp2_with fail
   refine HOP.out.mono ?_
   rintro e w6 ⟨A6, c6, rfl, hr6, hk6⟩
   have HR := xhd (read_one A6 c6 4 5 (Pure.wide N 4) (Pure.wide_length _ _).symm (HK5.out.trans hk6) (hr6.mono (fun b hb => Nat.le_trans HK5.out.size hb)))
   clear hr6 hk6 hfld
   go_wp2_with fail
   go_ret2
   rw [HV.out, HF.out]
   exact ⟨_, _, [(.slice A6 4 c6, ((5 : Int), Pure.wide N 4))], rfl, by rw [← HN.out]; rfl, HR.out⟩
  ·have hop : Calls Tryz.prog 52 #[.int .i64 5, .int .i64 ((m : Nat) : Int)] w5 fun e w' => ∃ A c, e = .returned (.agg #[.int .i64 5, .slice A 4 c]) ∧ Row w' (fun b => w5.heap.size ≤ b) 1 (.slice A 4 c) 4 (u8s (Pure.wide m 4)) ∧ Keeps y01 w5 w' := y5f 5 m HOL.out w5
   have HOP := xhd hop
   clear hop
   go_wp2_with fail
   refine HOP.out.mono ?_
   rintro e w6 ⟨A6, c6, rfl, hr6, hk6⟩
   have HR := xhd (read_one A6 c6 4 5 (Pure.wide m 4) (Pure.wide_length _ _).symm (HK5.out.trans hk6) (hr6.mono (fun b hb => Nat.le_trans HK5.out.size hb)))
   clear hr6 hk6 hfld
   go_wp2_with fail
   go_ret2
   rw [HV.out, HF.out]
   exact ⟨_, _, [(.slice A6 4 c6, ((5 : Int), Pure.wide m 4))], rfl, rfl, HR.out⟩
 ·have HF := xhd (show (if own = 0 ∨ m ≠ own then J else if J.1 = 4 then J else if B then (4, [(5, Pure.wide own 4)]) else (3, [(5, Pure.wide (Pure.nextMagic own) 4)])) = J by rw [if_pos (.inr hne)])
  have qn : (((m : Nat) : Int) != ((own : Nat) : Int)) = true := by rw [bne_iff_ne]; omega
  clear hne
  go_wp2_with fail
  go_ret2
  rw [HV.out, HF.out]
  exact ⟨A2, c2, qs, by rw [← HJC.out]; rfl, HQS.out, HRD5.out⟩
end
theorem yba (F : Nat → Prop) (p : Pure.Pkt) (d : Value) (w : World) (hd : Row w F 1 d p.data.length (u8s p.data)) :
  Calls Tryz.prog 93 #[pktV p d] w fun e w' => ∃ sb : Nat, e = .returned (.agg #[.slice (some ⟨sb, 0, none⟩) 1 1, .bool false, .bool false, .bool false, .bool false, .int .i64 0]) ∧ PRow w' (fun b => (F b ∨ w.heap.size ≤ b) ∧ b < w'.heap.size) (.slice (some ⟨sb, 0, none⟩) 1 1) [(d, p)] ∧ Keeps y01 w w' := by
 obtain ⟨D, cd, rfl, _⟩ := hd.form
 obtain ⟨pc, pi, pd⟩ := p
 dsimp only at hd ⊢
 have HI := xhd y35
 obtain ⟨pb, hpb⟩ : ∃ q, q = w.heap.size := ⟨_, rfl⟩
 obtain ⟨w1, hw1⟩ : ∃ q, q = (w.alloc (.cells #[.int .i64 pc, .int .i64 pi, .slice D pd.length cd] 56)).alloc (.cells y23.toArray 61) := ⟨_, rfl⟩
 have hk1 : Keeps y01 w w1 := by rw [hw1]; exact ((Keeps.refl _ w).alloc _).alloc _
 have hP : Blk w1 pb 56 #[.int .i64 pc, .int .i64 pi, .slice D pd.length cd] := by rw [hw1, hpb]; exact (Blk.new w _ _).alloc _
 have hO : Blk w1 (pb + 1) 61 y23.toArray := by
  rw [hw1, show pb + 1 = (w.alloc (.cells #[.int .i64 pc, .int .i64 pi, .slice D pd.length cd] 56)).heap.size by rw [hpb]; simp]
  exact Blk.new _ _ _
 have hs1 : w1.heap.size = pb + 2 := by rw [hw1, hpb]; simp
 have c0 : w1.cell? ⟨pb, 0, none⟩ = some (.int .i64 pc) := by rw [hP.cell]; rfl
 have c1 : w1.cell? ⟨pb, 1, none⟩ = some (.int .i64 pi) := by rw [hP.cell]; rfl
 have c2 : w1.cell? ⟨pb, 2, none⟩ = some (.slice D pd.length cd) := by rw [hP.cell]; rfl
 have hk2 : Keeps y01 w1 (w1.alloc (.cells #[.int .i64 pc, .int .i64 pi, .slice D pd.length cd] 56)) := (Keeps.refl _ w1).alloc _
 have hO2 := hO.keeps hk2 (fun e => e)
 have hS2 : Blk (w1.alloc (.cells #[.int .i64 pc, .int .i64 pi, .slice D pd.length cd] 56)) w1.heap.size 56 #[.int .i64 pc, .int .i64 pi, .slice D pd.length cd] := Blk.new w1 _ _
 have z0 : (w1.alloc (.cells #[.int .i64 pc, .int .i64 pi, .slice D pd.length cd] 56)).cell? ⟨pb + 1, 0, none⟩ = some (.slice none 0 0) := by rw [hO2.cell]; rfl
 have f0 := hO2.frozen 0
 have z1 : (w1.alloc (.cells #[.int .i64 pc, .int .i64 pi, .slice D pd.length cd] 56)).cell? ⟨pb + 1, 1, none⟩ = some (.bool false) := by rw [hO2.cell]; rfl
 have f1 := hO2.frozen 1
 have z2 : (w1.alloc (.cells #[.int .i64 pc, .int .i64 pi, .slice D pd.length cd] 56)).cell? ⟨pb + 1, 2, none⟩ = some (.bool false) := by rw [hO2.cell]; rfl
 have f2 := hO2.frozen 2
 have z3 : (w1.alloc (.cells #[.int .i64 pc, .int .i64 pi, .slice D pd.length cd] 56)).cell? ⟨pb + 1, 3, none⟩ = some (.bool false) := by rw [hO2.cell]; rfl
 have f3 := hO2.frozen 3
 have z4 : (w1.alloc (.cells #[.int .i64 pc, .int .i64 pi, .slice D pd.length cd] 56)).cell? ⟨pb + 1, 4, none⟩ = some (.bool false) := by rw [hO2.cell]; rfl
 have f4 := hO2.frozen 4
 have z5 : (w1.alloc (.cells #[.int .i64 pc, .int .i64 pi, .slice D pd.length cd] 56)).cell? ⟨pb + 1, 5, none⟩ = some (.int .i64 0) := by rw [hO2.cell]; rfl
 have f5 := hO2.frozen 5
 obtain ⟨w9, hw9⟩ : ∃ q, q = (World.setCell ((World.setCell ((World.setCell ((World.setCell ((World.setCell ((World.setCell (w1.alloc (.cells #[.int .i64 pc, .int .i64 pi, .slice D pd.length cd] 56)) ⟨pb + 1, 0, none⟩ (.slice (some ⟨w1.heap.size, 0, none⟩) 1 1))) ⟨pb + 1, 1, none⟩ (.bool false))) ⟨pb + 1, 2, none⟩ (.bool false))) ⟨pb + 1, 3, none⟩ (.bool false))) ⟨pb + 1, 4, none⟩ (.bool false))) ⟨pb + 1, 5, none⟩ (.int .i64 0)) := ⟨_, rfl⟩
 have HZ := xhd (show Blk w9 (pb + 1) 61 #[.slice (some ⟨w1.heap.size, 0, none⟩) 1 1, .bool false, .bool false, .bool false, .bool false, .int .i64 0] by rw [hw9]; exact ((((((hO2.set 0 (.slice (some ⟨w1.heap.size, 0, none⟩) 1 1)).set 1 (.bool false)).set 2 (.bool false)).set 3 (.bool false)).set 4 (.bool false)).set 5 (.int .i64 0)))
 have KR : Keeps (only (pb + 1)) (w1.alloc (.cells #[.int .i64 pc, .int .i64 pi, .slice D pd.length cd] 56)) w9 := by rw [hw9]; exact (((((((Keeps.refl (only (pb + 1)) (w1.alloc (.cells #[.int .i64 pc, .int .i64 pi, .slice D pd.length cd] 56))).put 0 (.slice (some ⟨w1.heap.size, 0, none⟩) 1 1)).put 1 (.bool false)).put 2 (.bool false)).put 3 (.bool false)).put 4 (.bool false)).put 5 (.int .i64 0))
 have hSB := hS2.keeps KR (fun e => by have e : w1.heap.size = pb + 1 := e; omega)
 have hkA := (hk1.trans hk2).trans' KR (fun i hi hl => by have e : i = pb + 1 := hi; omega)
 have HK := xhd (show Keeps y01 w w9 from hkA)
 have hrow := ((hd.strongN (by omega)).keeps hkA (fun _ _ e => e)).mono (fun b hb => And.intro (Or.inl hb.1 : F b ∨ w.heap.size ≤ b) (Nat.lt_of_lt_of_le hb.2 hkA.size))
 have HPR := xhd (show PRow w9 (fun b => (F b ∨ w.heap.size ≤ b) ∧ b < w9.heap.size) (.slice (some ⟨w1.heap.size, 0, none⟩) 1 1) [(.slice D pd.length cd, ⟨pc, pi, pd⟩)] from
  ⟨Row.block (F := fun b => (F b ∨ w.heap.size ≤ b) ∧ b < w9.heap.size) (n := 1) (c := 1) (size := 3) hSB ⟨.inr (by omega), hSB.lt⟩ rfl (by unfold maxLen; omega) (Nat.le_refl _), fun q hq => by rw [List.mem_singleton.1 hq]; exact hrow⟩)
 clear hk1 hP hO hs1 hk2 hO2 hS2 KR hSB hkA hrow hd
 go_enter Tryz.func93, Tryz.ntmps93
 go_upto_region 1 with fail
 rw [← hpb]
 rw [show (w.alloc (.cells #[.int .i64 pc, .int .i64 pi, .slice D pd.length cd] 56)).alloc (.cells #[.slice none 0 0, .bool false, .bool false, .bool false, .bool false, .int .i64 0] 61) = w1 from hw1.symm]
 clear hw1 hpb
 go_wp2_with fail
 rw [← hw9]
 refine bodyPost_ret (y07 rfl _ _ (pb + 1) 61 _ (0, 0) _ rfl HZ.out Tryz.underlying61 rfl (by rw [HI.out]; rfl)) rfl ?_
 exact ⟨_, rfl, HPR.out, HK.out⟩
section
variable {w : World} {k : LF} {R : Nat → Prop} {f : NF} {x : Pure.Lcp}
theorem ldrops_any (h : LObj w k R f x) (p : Pure.Pkt) (D : Option Addr) (cd : Nat) :
  Calls Tryz.prog 73 #[.pointer (some ⟨k.l, 0, none⟩), pktV p (.slice D p.data.length cd)] w fun e w' => ∃ b : Bool, e = .returned (.bool b) ∧ (b = true ↔ x.passes p) ∧ Keeps y01 w w' := by
 obtain ⟨pc, pi, pd⟩ := p
 obtain ⟨pb, hpb⟩ : ∃ q, q = w.heap.size := ⟨_, rfl⟩
 obtain ⟨w1, hw1⟩ : ∃ q, q = w.alloc (.cells #[.int .i64 pc, .int .i64 pi, .slice D pd.length cd] 56) := ⟨_, rfl⟩
 have hk1 : Keeps y01 w w1 := by rw [hw1]; exact (Keeps.refl _ w).alloc _
 have hP : Blk w1 pb 56 #[.int .i64 pc, .int .i64 pi, .slice D pd.length cd] := by rw [hw1, hpb]; exact Blk.new w _ _
 have c0 : w1.cell? ⟨pb, 0, none⟩ = some (.int .i64 pc) := by rw [hP.cell]; rfl
 have c2 : w1.cell? ⟨pb, 2, none⟩ = some (.slice D pd.length cd) := by rw [hP.cell]; rfl
 have h1 := h.quiet hk1
 have HDN := xhd (fun (q : Nat) => (ldown_any (h1.quiet (Keeps.of_drewN (n := q) rfl))).mono (fun e w' h => And.intro h.1 h.2.symm))
 have HOP := xhd (y76 h1)
 have HS5 := xhd (show ∀ W, Calls Tryz.prog 58 #[.int .i64 5] W fun e w' => e = .returned (.int .i64 4) ∧ w' = W from fun W => (y5m 5 W).mono (fun e w' h => And.intro h.1 h.2.symm))
 have HK := xhd hk1
 clear h h1 hk1 hP
 go_enter Tryz.func73, Tryz.ntmps73
 go_upto_region 1 with fail
 rw [← hpb]
 rw [show w.alloc (.cells #[.int .i64 pc, .int .i64 pi, .slice D pd.length cd] 56) = w1 from hw1.symm]
 clear hw1 hpb
 by_cases h9 : pc = 9
 ·subst h9
  have HP := xhd (show x.passes ⟨9, pi, pd⟩ ↔ (x.n.m.state ≤ 1 ∨ pd.length < 4) by
   unfold Pure.Lcp.passes
   constructor
   ·rintro (⟨_, h⟩ | ⟨h, _⟩ | ⟨h, _⟩)
    ·exact h
    ·exact absurd h (show ¬ (9 : Int) = 8 by decide)
    ·exact absurd h (show ¬ ((9 : Int) = 10 ∨ (9 : Int) = 11) by decide)
   ·intro h; exact .inl ⟨rfl, h⟩)
  by_cases hd : x.n.m.state ≤ 1
  ·have HD := xhd hd
   rw [decide_eq_true hd] at HDN
   clear hd
   go_wp2_with go_quiet (first | exact Calls.quiet_of_same (HDN.out _) | exact Calls.quiet_of_same (HS5.out _))
   go_ret
   refine ⟨true, rfl, ⟨fun _ => HP.out.2 (.inl HD.out), fun _ => rfl⟩, ?_⟩
   first | exact HK.out | exact HK.out.drewN _
  ·have HD := xhd hd
   rw [decide_eq_false hd] at HDN
   clear hd
   by_cases hl : pd.length < 4
   ·have d1 : decide ((pd.length : Int) < 4) = true := decide_eq_true (by omega)
    have d2 : decide (pd.length < 4) = true := decide_eq_true hl
    have HLT := xhd hl
    clear hl
    go_wp2_with go_quiet (first | exact Calls.quiet_of_same (HDN.out _) | exact Calls.quiet_of_same (HS5.out _))
    go_ret
    refine ⟨true, rfl, ⟨fun _ => HP.out.2 (.inr HLT.out), fun _ => rfl⟩, ?_⟩
    first | exact HK.out | exact HK.out.drewN _
   ·have d1 : decide ((pd.length : Int) < 4) = false := decide_eq_false (by omega)
    have d2 : decide (pd.length < 4) = false := decide_eq_false hl
    have HLT := xhd hl
    clear hl
    go_wp2_with go_quiet (first | exact Calls.quiet_of_same (HDN.out _) | exact Calls.quiet_of_same (HS5.out _))
    go_ret
    refine ⟨false, rfl, ⟨fun e => (by cases e), fun e => ?_⟩, ?_⟩
    ·rcases HP.out.1 e with e | e
     ·exact absurd e HD.out
     ·exact absurd e HLT.out
    ·first | exact HK.out | exact HK.out.drewN _
 have b9 : (pc == 9) = false := by rw [beq_eq_false_iff_ne]; exact h9
 by_cases h8 : pc = 8
 ·subst h8
  have HP := xhd (show x.passes ⟨8, pi, pd⟩ ↔ (pd.length < 2 ∨ x.n.m.state ≠ 9) by
   unfold Pure.Lcp.passes
   constructor
   ·rintro (⟨h, _⟩ | ⟨_, h⟩ | ⟨h, _⟩)
    ·exact absurd h (show ¬ (8 : Int) = 9 by decide)
    ·exact h
    ·exact absurd h (show ¬ ((8 : Int) = 10 ∨ (8 : Int) = 11) by decide)
   ·intro h; exact .inr (.inl ⟨rfl, h⟩))
  clear h9
  by_cases hl : pd.length < 2
  ·have d1 : decide ((pd.length : Int) < 2) = true := decide_eq_true (by omega)
   have d2 : decide (pd.length < 2) = true := decide_eq_true hl
   have HLT := xhd hl
   clear hl
   go_wp2_with fail
   go_ret
   exact ⟨true, rfl, ⟨fun _ => HP.out.2 (.inl HLT.out), fun _ => rfl⟩, HK.out⟩
  ·have d1 : decide ((pd.length : Int) < 2) = false := decide_eq_false (by omega)
   have d2 : decide (pd.length < 2) = false := decide_eq_false hl
   have HLT := xhd hl
   clear hl
   go_wp2_with fail
   refine HOP.out.mono ?_
   rintro e w2 ⟨rfl, rfl⟩
   by_cases hs : x.n.m.state = 9
   ·rw [decide_eq_true hs]
    have HS := xhd hs
    clear hs
    go_wp2_with fail
    go_ret
    exact ⟨false, rfl, ⟨fun e => (by cases e), fun e => ((HP.out.1 e).elim (fun e => absurd e HLT.out) (fun e => absurd HS.out e))⟩, HK.out⟩
   ·rw [decide_eq_false hs]
    have HS := xhd hs
    clear hs
    go_wp2_with fail
    go_ret
    exact ⟨true, rfl, ⟨fun _ => HP.out.2 (.inr HS.out), fun _ => rfl⟩, HK.out⟩
 have b8 : (pc == 8) = false := by rw [beq_eq_false_iff_ne]; exact h8
 by_cases h10 : pc = 10
 ·subst h10
  have HP := xhd (show x.passes ⟨10, pi, pd⟩ ↔ x.n.m.state ≠ 9 by
   unfold Pure.Lcp.passes
   constructor
   ·rintro (⟨h, _⟩ | ⟨h, _⟩ | ⟨_, h⟩)
    ·exact absurd h (show ¬ (10 : Int) = 9 by decide)
    ·exact absurd h (show ¬ (10 : Int) = 8 by decide)
    ·exact h
   ·intro h; exact .inr (.inr ⟨.inl rfl, h⟩))
  clear h9 h8
  go_wp2_with fail
  refine HOP.out.mono ?_
  rintro e w2 ⟨rfl, rfl⟩
  by_cases hs : x.n.m.state = 9
  ·rw [decide_eq_true hs]
   have HS := xhd hs
   clear hs
   go_wp2_with fail
   go_ret
   exact ⟨false, rfl, ⟨fun e => (by cases e), fun e => absurd HS.out (HP.out.1 e)⟩, HK.out⟩
  ·rw [decide_eq_false hs]
   have HS := xhd hs
   clear hs
   go_wp2_with fail
   go_ret
   exact ⟨true, rfl, ⟨fun _ => HP.out.2 HS.out, fun _ => rfl⟩, HK.out⟩
 have b10 : (pc == 10) = false := by rw [beq_eq_false_iff_ne]; exact h10
 by_cases h11 : pc = 11
 ·subst h11
  have HP := xhd (show x.passes ⟨11, pi, pd⟩ ↔ x.n.m.state ≠ 9 by
   unfold Pure.Lcp.passes
   constructor
   ·rintro (⟨h, _⟩ | ⟨h, _⟩ | ⟨_, h⟩)
    ·exact absurd h (show ¬ (11 : Int) = 9 by decide)
    ·exact absurd h (show ¬ (11 : Int) = 8 by decide)
    ·exact h
   ·intro h; exact .inr (.inr ⟨.inr rfl, h⟩))
  clear h9 h8 h10
  go_wp2_with fail
  refine HOP.out.mono ?_
  rintro e w2 ⟨rfl, rfl⟩
  by_cases hs : x.n.m.state = 9
  ·rw [decide_eq_true hs]
   have HS := xhd hs
   clear hs
   go_wp2_with fail
   go_ret
   exact ⟨false, rfl, ⟨fun e => (by cases e), fun e => absurd HS.out (HP.out.1 e)⟩, HK.out⟩
  ·rw [decide_eq_false hs]
   have HS := xhd hs
   clear hs
   go_wp2_with fail
   go_ret
   exact ⟨true, rfl, ⟨fun _ => HP.out.2 HS.out, fun _ => rfl⟩, HK.out⟩
 have b11 : (pc == 11) = false := by rw [beq_eq_false_iff_ne]; exact h11
 have HP := xhd (show ¬ x.passes ⟨pc, pi, pd⟩ by
  unfold Pure.Lcp.passes
  rintro (⟨h, _⟩ | ⟨h, _⟩ | ⟨h | h, _⟩)
  ·exact h9 h
  ·exact h8 h
  ·exact h10 h
  ·exact h11 h)
 clear h9 h8 h10 h11
 go_wp2_with fail
 go_ret
 exact ⟨false, rfl, ⟨fun e => (by cases e), fun e => absurd e HP.out⟩, HK.out⟩
end
end Go.Proofs.YtmgicbckgpdkcaaGreatDoor
