/- Package nego: a negotiator and what it stands for. -/
import Derived.Test.YtmgicbckgpdkcaaGreatDoorQ23
namespace Go.Proofs.YtmgicbckgpdkcaaGreatDoor
open Go.RowKit
namespace Pure
def sendAnswerP (s : Neg × Said) : Option Reply → Neg × Said
 | none => s
 | some q => ({ s.1 with naks := if q.code = 3 then s.1.naks + 1 else s.1.naks, theirs := if q.code = 2 then q.l else s.1.theirs }, s.2.more ⟨q.code, q.p.id, (options q.l).2⟩)
def negActP (r : Option Reply) (s : Neg × Said) : Nat → Neg × Said
 | 0 => (s.1, { s.2 with up := true })
 | 1 => (s.1, { s.2 with down := true })
 | 2 => (s.1.again, { s.2 with start := true })
 | 3 => (s.1, { s.2 with done := true })
 | 6 => sendReq s
 | 7 => sendAnswerP s r
 | 8 => sendAnswerP s r
 | 9 => sendOwn s 5 []
 | 10 => sendTermAck s r
 | 11 => sendCodeRej s r
 | _ => s
def Neg.actsP (n : Neg) (l : List Nat) (r : Option Reply) : Neg × Said := l.foldl (negActP r) (n, mute)
structure Neg.Well (n : Neg) : Prop where
 good : n.m.Good
 tries : n.m.tries ≤ 1000
 timeout : n.m.timeout ≤ 1000
 id : n.id < 256
 first : Fine n.first
 request : Fine n.request
 asked : Fine (split n.ours).2
 ours : (options (split n.ours).2).2 = n.ours
theorem Fine.back {l : List Opt} (h : Fine l) : (split (options l).2).2 = l := by rw [fine_split h]
end Pure
def Opts (w : World) (R : Nat → Prop) (v : Value) (l : List Pure.Opt) : Prop := ∃ zs, ORow w R v zs ∧ optsOf zs = l ∧ FewOpts zs
theorem Opts.keeps {w w' : World} {R S : Nat → Prop} {v : Value} {l : List Pure.Opt} (h : Opts w R v l) (k : Keeps S w w') (hs : ∀ b, R b → ¬ S b) : Opts w' R v l := by
 obtain ⟨zs, h1, h2, h3⟩ := h
 exact ⟨zs, h1.keeps k hs, h2, h3⟩
theorem Opts.mono {w : World} {R G : Nat → Prop} {v : Value} {l : List Pure.Opt} (h : Opts w R v l) (hG : ∀ b, R b → G b) : Opts w G v l := by
 obtain ⟨zs, h1, h2, h3⟩ := h
 exact ⟨zs, h1.mono hG, h2, h3⟩
theorem Row.strongN {w : World} {F : Nat → Prop} {size : Nat} {v : Value} {n : Nat} {xs : List Value} (hs : 0 < size) (h : Row w F size v n xs) : Row w (fun b => F b ∧ b < w.heap.size) size v n xs := by
 obtain ⟨h1, h0, A, c, h2, h3, h4, h5⟩ := h
 refine ⟨h1, h0, A, c, h2, h3, h4, fun hn => ?_⟩
 obtain ⟨b, off, e, f, g⟩ := h5 hn
 have hl : 0 < xs.length := by rw [h1]; exact Nat.mul_pos hn hs
 exact ⟨b, off, e, ⟨f, cell_lt (g 0 _ (List.getElem?_eq_getElem hl))⟩, g⟩
theorem ORow.strong {w : World} {F : Nat → Prop} {v : Value} {zs : List (Value × Pure.Opt)} (h : ORow w F v zs) : ORow w (fun b => F b ∧ b < w.heap.size) v zs :=
 ⟨h.out.strongN (by omega), fun p hp => (h.rows p hp).strongN (by omega)⟩
theorem fine_few {zs : List (Value × Pure.Opt)} (h : Pure.Fine (optsOf zs)) : FewOpts zs := by
 refine ⟨by have := h.len; simp at this; omega, fun p hp => ?_⟩
 have := h.odd p.2 (List.mem_map.2 ⟨p, hp, rfl⟩)
 unfold Pure.Opt.odd at this
 omega
theorem Opts.of {w : World} {F : Nat → Prop} {v : Value} {zs : List (Value × Pure.Opt)} {l : List Pure.Opt} (h : ORow w F v zs) (he : optsOf zs = l) (hf : Pure.Fine l) : Opts w F v l := ⟨zs, h, he, fine_few (he ▸ hf)⟩
structure NObj (w : World) (g : Nat) (R : Nat → Prop) (f : NF) (n : Pure.Neg) : Prop where
 blk : NBlk w g f
 mach : PMach w f.gm n.m
 well : n.Well
 e1 : f.tries = n.m.tries
 e2 : f.id = n.id
 e3 : f.naks = n.naks
 e4 : f.aid = n.asked
 e5 : f.aopen = n.waits
 e6 : f.dropped = n.dropped
 rules : ∃ us, RRow w R f.rules us ∧ rulesOf us = n.rules ∧ FewRules us
 first : Opts w R f.first n.first
 request : Opts w R f.request n.request
 aopts : Opts w R f.aopts (Pure.split n.ours).2
 mine : Opts w R f.mine n.acked
 given : Opts w R f.given n.theirs
 lt : ∀ b, R b → b < w.heap.size
 ng : ¬ R g
 nm : ¬ R f.gm
 ne : g ≠ f.gm
theorem NObj.keeps {w w' : World} {g : Nat} {R S : Nat → Prop} {f : NF} {n : Pure.Neg} (h : NObj w g R f n) (k : Keeps S w w') (hg : ¬ S g) (hm : ¬ S f.gm) (hs : ∀ b, R b → ¬ S b) : NObj w' g R f n := by
 obtain ⟨us, r1, r2, r3⟩ := h.rules
 exact ⟨h.blk.keeps k hg, h.mach.keeps k hm, h.well, h.e1, h.e2, h.e3, h.e4, h.e5, h.e6, ⟨us, r1.keeps k hs, r2, r3⟩, h.first.keeps k hs, h.request.keeps k hs, h.aopts.keeps k hs, h.mine.keeps k hs, h.given.keeps k hs, fun b hb => Nat.lt_of_lt_of_le (h.lt b hb) k.size, h.ng, h.nm, h.ne⟩
def Later (w w' : World) (R : Nat → Prop) : Nat → Prop := fun b => (R b ∨ w.heap.size ≤ b) ∧ b < w'.heap.size
theorem Opts.later {w w' : World} {R : Nat → Prop} {g : Nat} {v : Value} {l : List Pure.Opt} (h : Opts w R v l) (k : Keeps (only g) w w') (hg : ¬ R g) (lt : ∀ b, R b → b < w.heap.size) : Opts w' (Later w w' R) v l :=
 (h.keeps k (fun b hb e => hg (by have e : b = g := e; exact e ▸ hb))).mono (fun b hb => ⟨.inl hb, Nat.lt_of_lt_of_le (lt b hb) k.size⟩)
theorem Opts.newer {w w' : World} {R : Nat → Prop} {v : Value} {zs : List (Value × Pure.Opt)} {l : List Pure.Opt} (h : ORow w' (fun b => w.heap.size ≤ b) v zs) (he : optsOf zs = l) (hf : FewOpts zs) : Opts w' (Later w w' R) v l :=
 ⟨zs, h.strong.mono (fun _ hb => ⟨.inr hb.1, hb.2⟩), he, hf⟩
theorem NObj.turn {w w' : World} {g : Nat} {R : Nat → Prop} {f f' : NF} {n n' : Pure.Neg} (h : NObj w g R f n) (k : Keeps (only g) w w') (hb : NBlk w' g f') (hw : n'.Well) (hgm : f'.gm = f.gm) (hm : n'.m = n.m) (hr : f'.rules = f.rules) (hrn : n'.rules = n.rules) (ht : f'.tries = f.tries)
  (e2 : f'.id = n'.id) (e3 : f'.naks = n'.naks) (e4 : f'.aid = n'.asked) (e5 : f'.aopen = n'.waits) (e6 : f'.dropped = n'.dropped)
  (first : Opts w' (Later w w' R) f'.first n'.first) (request : Opts w' (Later w w' R) f'.request n'.request) (aopts : Opts w' (Later w w' R) f'.aopts (Pure.split n'.ours).2) (mine : Opts w' (Later w w' R) f'.mine n'.acked) (given : Opts w' (Later w w' R) f'.given n'.theirs) :
  NObj w' g (Later w w' R) f' n' := by
 obtain ⟨us, r1, r2, r3⟩ := h.rules
 have hkR : ∀ b, R b → ¬ only g b := fun b hb e => h.ng (by have e : b = g := e; exact e ▸ hb)
 refine ⟨hb, ?_, hw, by rw [ht, h.e1, hm], e2, e3, e4, e5, e6, ⟨us, ?_, by rw [hrn]; exact r2, r3⟩, first, request, aopts, mine, given, fun b hb => hb.2, ?_, ?_, by rw [hgm]; exact h.ne⟩
 ·rw [hgm, hm]; exact h.mach.keeps k (fun e => h.ne (by have e : f.gm = g := e; exact e.symm))
 ·rw [hr]; exact (r1.keeps k hkR).mono (fun b hb => ⟨.inl hb, Nat.lt_of_lt_of_le (h.lt b hb) k.size⟩)
 ·rintro ⟨hb | hb, _⟩
  ·exact h.ng hb
  ·have := h.blk.lt; omega
 ·rw [hgm]
  rintro ⟨hb | hb, _⟩
  ·exact h.nm hb
  ·have := Blk.lt h.mach; omega
section
variable {w w' : World} {g : Nat} {R : Nat → Prop} {f : NF} {n : Pure.Neg}
theorem NObj.owned (h : NObj w g R f n) (k : Keeps (only g) w w') (hb : NBlk w' g { f with id := n.next }) : NObj w' g (Later w w' R) { f with id := n.next } { n with id := n.next } := by
 have hw : ({ n with id := n.next } : Pure.Neg).Well := ⟨h.well.good, h.well.tries, h.well.timeout, Nat.mod_lt _ (by omega), h.well.first, h.well.request, h.well.asked, h.well.ours⟩
 exact h.turn k hb hw rfl rfl rfl rfl rfl rfl h.e3 h.e4 h.e5 h.e6 (h.first.later k h.ng h.lt) (h.request.later k h.ng h.lt) (h.aopts.later k h.ng h.lt) (h.mine.later k h.ng h.lt) (h.given.later k h.ng h.lt)
theorem NObj.same (h : NObj w g R f n) (k : Keeps (only g) w w') (hb : NBlk w' g f) : NObj w' g (Later w w' R) f n :=
 h.turn k hb h.well rfl rfl rfl rfl rfl h.e2 h.e3 h.e4 h.e5 h.e6 (h.first.later k h.ng h.lt) (h.request.later k h.ng h.lt) (h.aopts.later k h.ng h.lt) (h.mine.later k h.ng h.lt) (h.given.later k h.ng h.lt)
theorem NObj.begun (h : NObj w g R f n) (k : Keeps (only g) w w') {u : Value} {qs : List (Value × Pure.Opt)} (hq : optsOf qs = n.first) (hr : ORow w' (fun b => w.heap.size ≤ b) u qs) (hb : NBlk w' g { f with request := u, naks := 0 }) : NObj w' g (Later w w' R) { f with request := u, naks := 0 } n.again := by
 have hw : n.again.Well := ⟨h.well.good, h.well.tries, h.well.timeout, h.well.id, h.well.first, h.well.first, h.well.asked, h.well.ours⟩
 exact h.turn k hb hw rfl rfl rfl rfl rfl h.e2 rfl h.e4 h.e5 h.e6 (h.first.later k h.ng h.lt) (Opts.newer hr hq (fine_few (by rw [hq]; exact h.well.first))) (h.aopts.later k h.ng h.lt) (h.mine.later k h.ng h.lt) (h.given.later k h.ng h.lt)
theorem NObj.asks (h : NObj w g R f n) (k : Keeps (only g) w w') {u : Value} {qs : List (Value × Pure.Opt)} (hq : optsOf qs = n.request) (hr : ORow w' (fun b => w.heap.size ≤ b) u qs) (hb : NBlk w' g { f with id := n.next, aid := n.next, aopts := u, aopen := true }) :
  NObj w' g (Later w w' R) { f with id := n.next, aid := n.next, aopts := u, aopen := true } { n with ours := (Pure.options n.request).2, waits := true, id := n.next, asked := n.next } := by
 have hs := h.well.request.back
 have hw : ({ n with ours := (Pure.options n.request).2, waits := true, id := n.next, asked := n.next } : Pure.Neg).Well :=
  ⟨h.well.good, h.well.tries, h.well.timeout, Nat.mod_lt _ (by omega), h.well.first, h.well.request, by show Pure.Fine (Pure.split (Pure.options n.request).2).2; rw [hs]; exact h.well.request, by show (Pure.options (Pure.split (Pure.options n.request).2).2).2 = (Pure.options n.request).2; rw [hs]⟩
 refine h.turn k hb hw rfl rfl rfl rfl rfl rfl h.e3 rfl rfl h.e6 (h.first.later k h.ng h.lt) (h.request.later k h.ng h.lt) ?_ (h.mine.later k h.ng h.lt) (h.given.later k h.ng h.lt)
 show Opts w' _ u (Pure.split (Pure.options n.request).2).2
 rw [hs]
 exact Opts.newer hr hq (fine_few (by rw [hq]; exact h.well.request))
theorem NObj.answers (h : NObj w g R f n) (k : Keeps (only g) w w') {q : Pure.Reply} {zs : List (Value × Pure.Opt)} {f' : NF} (hz : optsOf zs = q.l) (hfz : FewOpts zs) (ha : AnsTo w w' f (q.code : Int) zs f') (hb : NBlk w' g f') :
  NObj w' g (Later w w' R) f' { n with naks := if q.code = 3 then n.naks + 1 else n.naks, theirs := if q.code = 2 then q.l else n.theirs } ∧ f'.gm = f.gm := by
 have hw : ({ n with naks := if q.code = 3 then n.naks + 1 else n.naks, theirs := if q.code = 2 then q.l else n.theirs } : Pure.Neg).Well := ⟨h.well.good, h.well.tries, h.well.timeout, h.well.id, h.well.first, h.well.request, h.well.asked, h.well.ours⟩
 rcases ha with ⟨hc, u, qs, rfl, hq, hr⟩ | ⟨hc, rfl⟩ | ⟨h2, h3, rfl⟩
 ·have hc : q.code = 2 := by omega
  refine ⟨h.turn k hb hw rfl rfl rfl rfl rfl h.e2 ?_ h.e4 h.e5 h.e6 (h.first.later k h.ng h.lt) (h.request.later k h.ng h.lt) (h.aopts.later k h.ng h.lt) (h.mine.later k h.ng h.lt) ?_, rfl⟩
  ·show f.naks = if q.code = 3 then n.naks + 1 else n.naks
   rw [if_neg (by omega)]; exact h.e3
  ·show Opts w' _ u (if q.code = 2 then q.l else n.theirs)
   rw [if_pos hc]
   refine Opts.newer hr (hq.trans hz) ⟨?_, ?_⟩
   ·have := congrArg List.length hq
    simp at this
    rw [this]; exact hfz.len
   ·intro p hp
    have h1 : p.2 ∈ optsOf zs := by rw [← hq]; exact List.mem_map.2 ⟨p, hp, rfl⟩
    obtain ⟨z, hz1, hz2⟩ := List.mem_map.1 h1
    rw [← hz2]; exact hfz.data z hz1
 ·have hc : q.code = 3 := by omega
  refine ⟨h.turn k hb hw rfl rfl rfl rfl rfl h.e2 ?_ h.e4 h.e5 h.e6 (h.first.later k h.ng h.lt) (h.request.later k h.ng h.lt) (h.aopts.later k h.ng h.lt) (h.mine.later k h.ng h.lt) ?_, rfl⟩
  ·show f.naks + 1 = if q.code = 3 then n.naks + 1 else n.naks
   rw [if_pos hc, h.e3]
  ·show Opts w' _ f.given (if q.code = 2 then q.l else n.theirs)
   rw [if_neg (by omega)]; exact h.given.later k h.ng h.lt
 ·refine ⟨h.turn k hb hw rfl rfl rfl rfl rfl h.e2 ?_ h.e4 h.e5 h.e6 (h.first.later k h.ng h.lt) (h.request.later k h.ng h.lt) (h.aopts.later k h.ng h.lt) (h.mine.later k h.ng h.lt) ?_, rfl⟩
  ·show f'.naks = if q.code = 3 then n.naks + 1 else n.naks
   rw [if_neg (by omega)]; exact h.e3
  ·show Opts w' _ f'.given (if q.code = 2 then q.l else n.theirs)
   rw [if_neg (by omega)]; exact h.given.later k h.ng h.lt
end
structure PI (w1 w : World) (g go : Nat) (R : Nat → Prop) (gm : GM) (s : Pure.Neg × Pure.Said) (m : Nat) (f : NF) (R' : Nat → Prop) (sv : Value) (ps : List (Value × Pure.Pkt)) : Prop where
 obj : NObj w g R' f s.1
 gm : f.gm = gm
 sub : ∀ b, R' b → R b ∨ w1.heap.size ≤ b
 out : Blk w go 59 #[sv, .bool s.2.up, .bool s.2.down, .bool s.2.start, .bool s.2.done]
 sent : PSent w1 w sv ps
 pkts : ps.map Prod.snd = s.2.send
 few : ps.length ≤ m
 apart : ∀ b, R' b → sv.ownBlock ≠ some b
 kept : Keeps (fun b => b = g ∨ b = go) w1 w
 naks : s.1.naks ≤ 1000 + m
structure PS (w1 : World) (g go : Nat) (R : Nat → Prop) (gm : GM) : Prop where
 g1 : g < w1.heap.size
 go1 : go < w1.heap.size
 gm1 : gm < w1.heap.size
 ne : g ≠ go
 nm : gm ≠ go
 nr : ¬ R go
section
variable {w1 w : World} {g go : Nat} {R R' : Nat → Prop} {m : Nat} {gm : GM} {s : Pure.Neg × Pure.Said} {f : NF} {sv : Value} {ps : List (Value × Pure.Pkt)}
theorem PI.sends (H : PS w1 g go R gm) (h : PI w1 w g go R gm s m f R' sv ps) {w2 : World} {f2 : NF} {n2 : Pure.Neg} (hobj : NObj w2 g (Later w w2 R') f2 n2) (hgm : f2.gm = f.gm) (k2 : Keeps (only g) w w2) (p : Pure.Pkt) (d : Value)
  (hd : Row w2 (fun b => w.heap.size ≤ b) 1 d p.data.length (u8s p.data)) (hm : m ≤ 900) (hnk : n2.naks ≤ s.1.naks + 1) :
  Calls Tryz.prog 160 #[.pointer (some ⟨go, 0, none⟩), pktV p d] w2 fun e w' => e = .returned (.tuple #[]) ∧ ∃ sv' ps', PI w1 w' g go R gm (n2, s.2.more p) (m + 1) f2 (Later w w2 R') sv' ps' := by
 have hgo : go ≠ g := fun e => H.ne e.symm
 have hsz := h.kept.size
 have hown := h.sent.own
 have g1 := H.g1
 have go1 := H.go1
 have gm1 := H.gm1
 have hs2 : PSent w1 w2 sv ps := h.sent.other k2 (fun b e => by have e : b = g := e; rw [e]; exact H.g1)
 have hd2 : Row w2 (fun b => w1.heap.size ≤ b ∧ sv.ownBlock ≠ some b ∧ b < w2.heap.size) 1 d p.data.length (u8s p.data) :=
  (hd.strongN (by omega)).mono (fun b hb => ⟨Nat.le_trans hsz hb.1, fun e => by have := ownsRow_lt hown b e; have := hb.1; omega, hb.2⟩)
 refine (send_any go w1 w2 sv d ps p _ _ _ _ (h.out.keeps k2 (fun e => hgo e)) hs2 H.go1 (by have := h.few; omega) hd2).mono ?_
 rintro e w' ⟨rfl, sv', hO, hps, hob, hk⟩
 refine ⟨rfl, sv', ps ++ [(d, p)], ?_⟩
 have nogo : ∀ b, Later w w2 R' b → b ≠ go := by
  rintro b ⟨hb | hb, _⟩ rfl
  ·rcases h.sub _ hb with hb | hb
   ·exact H.nr hb
   ·omega
  ·omega
 have noown : ∀ b, Later w w2 R' b → sv.ownBlock ≠ some b := by
  rintro b ⟨hb | hb, _⟩ e
  ·exact h.apart b hb e
  ·have := ownsRow_lt hown b e; omega
 have hng : ∀ b, b < w1.heap.size → b ≠ go → ¬ (b = go ∨ sv.ownBlock = some b) := by
  rintro b hb hn (e | e)
  ·exact hn e
  ·have := ownsRow_ge hown b e; omega
 refine ⟨hobj.keeps hk (hng g g1 H.ne) ?_ ?_, by rw [hgm, h.gm], ?_, hO, hps, ?_, ?_, ?_, ?_, ?_⟩
 ·rw [hgm, h.gm]; exact hng gm gm1 H.nm
 ·rintro b hb (e | e)
  ·exact nogo b hb e
  ·exact noown b hb e
 ·rintro b ⟨hb | hb, _⟩
  ·exact h.sub b hb
  ·exact .inr (Nat.le_trans hsz hb)
 ·show (ps ++ [(d, p)]).map Prod.snd = s.2.send ++ [p]
  rw [List.map_append, h.pkts]; rfl
 ·rw [List.length_append]; have := h.few; simp; omega
 ·intro b hb e
  rcases hob b e with e | e
  ·exact noown b hb e
  ·have := hb.2; omega
 ·refine (h.kept.trans (k2.mono (fun b e => .inl e))).trans' hk ?_
  rintro b (e | e) hl
  ·exact .inr e
  ·have := ownsRow_ge hown b e; omega
 ·have := h.naks; show n2.naks ≤ _; omega
theorem PI.flag (H : PS w1 g go R gm) (h : PI w1 w g go R gm s m f R' sv ps) (j : Nat) (up dn st dne : Bool) (hj : (#[sv, .bool s.2.up, .bool s.2.down, .bool s.2.start, .bool s.2.done] : Array Value).setIfInBounds j (.bool true) = #[sv, .bool up, .bool dn, .bool st, .bool dne]) :
  PI w1 (w.setCell ⟨go, j, none⟩ (.bool true)) g go R gm (s.1, ⟨s.2.send, up, dn, st, dne⟩) m f R' sv ps := by
 have k : Keeps (only go) w (w.setCell ⟨go, j, none⟩ (.bool true)) := (Keeps.refl (only go) w).put j _
 have hob := h.out.set j (.bool true)
 rw [hj] at hob
 have g1 := H.g1
 have go1 := H.go1
 refine ⟨h.obj.keeps k (fun e => H.ne e) ?_ ?_, h.gm, h.sub, hob, h.sent.other k (fun b e => by have e : b = go := e; rw [e]; exact go1), h.pkts, h.few, h.apart, h.kept.trans (k.mono (fun b e => .inr e)), h.naks⟩
 ·rw [h.gm]; exact fun e => H.nm e
 ·intro b hb e
  have e : b = go := e
  subst e
  rcases h.sub _ hb with hb | hb
  ·exact H.nr hb
  ·omega
theorem PI.turned (H : PS w1 g go R gm) (h : PI w1 w g go R gm s m f R' sv ps) {w2 : World} {f2 : NF} {n2 : Pure.Neg} (hobj : NObj w2 g (Later w w2 R') f2 n2) (hgm : f2.gm = f.gm) (k2 : Keeps (only g) w w2) (hnk : n2.naks ≤ s.1.naks) :
  PI w1 w2 g go R gm (n2, s.2) m f2 (Later w w2 R') sv ps := by
 have hsz := h.kept.size
 have hown := h.sent.own
 have g1 := H.g1
 have go1 := H.go1
 refine ⟨hobj, by rw [hgm, h.gm], ?_, h.out.keeps k2 (fun e => H.ne e.symm), h.sent.other k2 (fun b e => by have e : b = g := e; rw [e]; exact g1), h.pkts, h.few, ?_, h.kept.trans (k2.mono (fun b e => .inl e)), by have := h.naks; show n2.naks ≤ _; omega⟩
 ·rintro b ⟨hb | hb, _⟩
  ·exact h.sub b hb
  ·exact .inr (Nat.le_trans hsz hb)
 ·rintro b ⟨hb | hb, _⟩ e
  ·exact h.apart b hb e
  ·have := ownsRow_lt hown b e; omega
end
end Go.Proofs.YtmgicbckgpdkcaaGreatDoor
