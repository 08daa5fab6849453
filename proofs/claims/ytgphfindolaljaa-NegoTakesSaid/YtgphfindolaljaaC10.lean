/- Package nego: a negotiator and what it stands for. -/
import Derived.Test.YtgphfindolaljaaC9
namespace Go.Proofs.Ytgphfindolaljaa
set_option maxRecDepth 100000
set_option maxHeartbeats 16000000
open _root_.Go.Lib renaming hid → xhd
open Go.RowKit
namespace Pure
def y3l (s : Neg × Said) : Option Reply → Neg × Said
 | none => s
 | some q => ({ s.1 with naks := if q.code = 3 then s.1.naks + 1 else s.1.naks, theirs := if q.code = 2 then q.l else s.1.theirs }, s.2.more ⟨q.code, q.p.id, (options q.l).2⟩)
def negActP (r : Option Reply) (s : Neg × Said) : Nat → Neg × Said
 | 0 => (s.1, { s.2 with up := true })
 | 1 => (s.1, { s.2 with down := true })
 | 2 => (s.1.again, { s.2 with start := true })
 | 3 => (s.1, { s.2 with done := true })
 | 6 => sendReq s
 | 7 => y3l s r
 | 8 => y3l s r
 | 9 => sendOwn s 5 []
 | 10 => y3n s r
 | 11 => y3m s r
 | _ => s
def Neg.actsP (n : Neg) (l : List Nat) (r : Option Reply) : Neg × Said := l.foldl (negActP r) (n, mute)
structure Neg.Well (n : Neg) : Prop where
 good : n.m.Good
 tries : n.m.tries ≤ 1000
 timeout : n.m.timeout ≤ 1000
 id : n.id < 256
 first : Fine n.first
 request : Fine n.request
 asked : Fine (split n.ours).2
 ours : (options (split n.ours).2).2 = n.ours
theorem Fine.back {l : List Opt} (h : Fine l) : (split (options l).2).2 = l := by rw [fine_split h]
end Pure
def Opts (w : World) (R : Nat → Prop) (v : Value) (l : List Pure.Opt) : Prop := ∃ zs, ORow w R v zs ∧ y01 zs = l ∧ FewOpts zs
theorem Opts.keeps {w w' : World} {R S : Nat → Prop} {v : Value} {l : List Pure.Opt} (h : Opts w R v l) (k : Keeps S w w') (hs : ∀ b, R b → ¬ S b) : Opts w' R v l := by
 obtain ⟨zs, h1, h2, h3⟩ := h
 exact ⟨zs, h1.keeps k hs, h2, h3⟩
theorem Opts.mono {w : World} {R G : Nat → Prop} {v : Value} {l : List Pure.Opt} (h : Opts w R v l) (hG : ∀ b, R b → G b) : Opts w G v l := by
 obtain ⟨zs, h1, h2, h3⟩ := h
 exact ⟨zs, h1.mono hG, h2, h3⟩
theorem Row.strongN {w : World} {F : Nat → Prop} {size : Nat} {v : Value} {n : Nat} {xs : List Value} (hs : 0 < size) (h : Row w F size v n xs) : Row w (fun b => F b ∧ b < w.heap.size) size v n xs := by
 obtain ⟨h1, h0, A, c, h2, h3, h4, h5⟩ := h
 refine ⟨h1, h0, A, c, h2, h3, h4, fun hn => ?_⟩
 obtain ⟨b, off, e, f, g⟩ := h5 hn
 have hl : 0 < xs.length := by rw [h1]; exact Nat.mul_pos hn hs
 exact ⟨b, off, e, ⟨f, y0n (g 0 _ (List.getElem?_eq_getElem hl))⟩, g⟩
theorem ORow.strong {w : World} {F : Nat → Prop} {v : Value} {zs : List (Value × Pure.Opt)} (h : ORow w F v zs) : ORow w (fun b => F b ∧ b < w.heap.size) v zs :=
 ⟨h.out.strongN (by omega), fun p hp => (h.rows p hp).strongN (by omega)⟩
theorem y20 {zs : List (Value × Pure.Opt)} (h : Pure.Fine (y01 zs)) : FewOpts zs := by
 refine ⟨by have := h.len; simp at this; omega, fun p hp => ?_⟩
 have := h.odd p.2 (List.mem_map.2 ⟨p, hp, rfl⟩)
 unfold Pure.Opt.odd at this
 omega
structure NObj (w : World) (g : Nat) (R : Nat → Prop) (f : NF) (n : Pure.Neg) : Prop where
 blk : NBlk w g f
 mach : y0o w f.gm n.m
 well : n.Well
 e1 : f.tries = n.m.tries
 e2 : f.id = n.id
 e3 : f.naks = n.naks
 e4 : f.aid = n.asked
 e5 : f.aopen = n.waits
 e6 : f.dropped = n.dropped
 rules : ∃ us, RRow w R f.rules us ∧ y06 us = n.rules ∧ FewRules us
 first : Opts w R f.first n.first
 request : Opts w R f.request n.request
 aopts : Opts w R f.aopts (Pure.split n.ours).2
 mine : Opts w R f.mine n.acked
 given : Opts w R f.given n.theirs
 lt : ∀ b, R b → b < w.heap.size
 ng : ¬ R g
 nm : ¬ R f.gm
 ne : g ≠ f.gm
theorem NObj.keeps {w w' : World} {g : Nat} {R S : Nat → Prop} {f : NF} {n : Pure.Neg} (h : NObj w g R f n) (k : Keeps S w w') (hg : ¬ S g) (hm : ¬ S f.gm) (hs : ∀ b, R b → ¬ S b) : NObj w' g R f n := by
 obtain ⟨us, r1, r2, r3⟩ := h.rules
 exact ⟨h.blk.keeps k hg, h.mach.keeps k hm, h.well, h.e1, h.e2, h.e3, h.e4, h.e5, h.e6, ⟨us, r1.keeps k hs, r2, r3⟩, h.first.keeps k hs, h.request.keeps k hs, h.aopts.keeps k hs, h.mine.keeps k hs, h.given.keeps k hs, fun b hb => Nat.lt_of_lt_of_le (h.lt b hb) k.size, h.ng, h.nm, h.ne⟩
def y0s (w w' : World) (R : Nat → Prop) : Nat → Prop := fun b => (R b ∨ w.heap.size ≤ b) ∧ b < w'.heap.size
theorem Opts.later {w w' : World} {R : Nat → Prop} {g : Nat} {v : Value} {l : List Pure.Opt} (h : Opts w R v l) (k : Keeps (only g) w w') (hg : ¬ R g) (lt : ∀ b, R b → b < w.heap.size) : Opts w' (y0s w w' R) v l :=
 (h.keeps k (fun b hb e => hg (by have e : b = g := e; exact e ▸ hb))).mono (fun b hb => ⟨.inl hb, Nat.lt_of_lt_of_le (lt b hb) k.size⟩)
theorem Opts.newer {w w' : World} {R : Nat → Prop} {v : Value} {zs : List (Value × Pure.Opt)} {l : List Pure.Opt} (h : ORow w' (fun b => w.heap.size ≤ b) v zs) (he : y01 zs = l) (hf : FewOpts zs) : Opts w' (y0s w w' R) v l :=
 ⟨zs, h.strong.mono (fun _ hb => ⟨.inr hb.1, hb.2⟩), he, hf⟩
theorem NObj.turn {w w' : World} {g : Nat} {R : Nat → Prop} {f f' : NF} {n n' : Pure.Neg} (h : NObj w g R f n) (k : Keeps (only g) w w') (hb : NBlk w' g f') (hw : n'.Well) (hgm : f'.gm = f.gm) (hm : n'.m = n.m) (hr : f'.rules = f.rules) (hrn : n'.rules = n.rules) (ht : f'.tries = f.tries)
  (e2 : f'.id = n'.id) (e3 : f'.naks = n'.naks) (e4 : f'.aid = n'.asked) (e5 : f'.aopen = n'.waits) (e6 : f'.dropped = n'.dropped)
  (first : Opts w' (y0s w w' R) f'.first n'.first) (request : Opts w' (y0s w w' R) f'.request n'.request) (aopts : Opts w' (y0s w w' R) f'.aopts (Pure.split n'.ours).2) (mine : Opts w' (y0s w w' R) f'.mine n'.acked) (given : Opts w' (y0s w w' R) f'.given n'.theirs) :
  NObj w' g (y0s w w' R) f' n' := by
 obtain ⟨us, r1, r2, r3⟩ := h.rules
 have hkR : ∀ b, R b → ¬ only g b := fun b hb e => h.ng (by have e : b = g := e; exact e ▸ hb)
 refine ⟨hb, ?_, hw, by rw [ht, h.e1, hm], e2, e3, e4, e5, e6, ⟨us, ?_, by rw [hrn]; exact r2, r3⟩, first, request, aopts, mine, given, fun b hb => hb.2, ?_, ?_, by rw [hgm]; exact h.ne⟩
 ·rw [hgm, hm]; exact h.mach.keeps k (fun e => h.ne (by have e : f.gm = g := e; exact e.symm))
 ·rw [hr]; exact (r1.keeps k hkR).mono (fun b hb => ⟨.inl hb, Nat.lt_of_lt_of_le (h.lt b hb) k.size⟩)
 ·rintro ⟨hb | hb, _⟩
  ·exact h.ng hb
  ·have := h.blk.lt; omega
 ·rw [hgm]
  rintro ⟨hb | hb, _⟩
  ·exact h.nm hb
  ·have := Blk.lt h.mach; omega
section
variable {w w' : World} {g : Nat} {R : Nat → Prop} {f : NF} {n : Pure.Neg}
theorem NObj.owned (h : NObj w g R f n) (k : Keeps (only g) w w') (hb : NBlk w' g { f with id := n.next }) : NObj w' g (y0s w w' R) { f with id := n.next } { n with id := n.next } := by
 have hw : ({ n with id := n.next } : Pure.Neg).Well := ⟨h.well.good, h.well.tries, h.well.timeout, Nat.mod_lt _ (by omega), h.well.first, h.well.request, h.well.asked, h.well.ours⟩
 exact h.turn k hb hw rfl rfl rfl rfl rfl rfl h.e3 h.e4 h.e5 h.e6 (h.first.later k h.ng h.lt) (h.request.later k h.ng h.lt) (h.aopts.later k h.ng h.lt) (h.mine.later k h.ng h.lt) (h.given.later k h.ng h.lt)
theorem NObj.same (h : NObj w g R f n) (k : Keeps (only g) w w') (hb : NBlk w' g f) : NObj w' g (y0s w w' R) f n :=
 h.turn k hb h.well rfl rfl rfl rfl rfl h.e2 h.e3 h.e4 h.e5 h.e6 (h.first.later k h.ng h.lt) (h.request.later k h.ng h.lt) (h.aopts.later k h.ng h.lt) (h.mine.later k h.ng h.lt) (h.given.later k h.ng h.lt)
theorem NObj.begun (h : NObj w g R f n) (k : Keeps (only g) w w') {u : Value} {qs : List (Value × Pure.Opt)} (hq : y01 qs = n.first) (hr : ORow w' (fun b => w.heap.size ≤ b) u qs) (hb : NBlk w' g { f with request := u, naks := 0 }) : NObj w' g (y0s w w' R) { f with request := u, naks := 0 } n.again := by
 have hw : n.again.Well := ⟨h.well.good, h.well.tries, h.well.timeout, h.well.id, h.well.first, h.well.first, h.well.asked, h.well.ours⟩
 exact h.turn k hb hw rfl rfl rfl rfl rfl h.e2 rfl h.e4 h.e5 h.e6 (h.first.later k h.ng h.lt) (Opts.newer hr hq (y20 (by rw [hq]; exact h.well.first))) (h.aopts.later k h.ng h.lt) (h.mine.later k h.ng h.lt) (h.given.later k h.ng h.lt)
theorem NObj.asks (h : NObj w g R f n) (k : Keeps (only g) w w') {u : Value} {qs : List (Value × Pure.Opt)} (hq : y01 qs = n.request) (hr : ORow w' (fun b => w.heap.size ≤ b) u qs) (hb : NBlk w' g { f with id := n.next, aid := n.next, aopts := u, aopen := true }) :
  NObj w' g (y0s w w' R) { f with id := n.next, aid := n.next, aopts := u, aopen := true } { n with ours := (Pure.options n.request).2, waits := true, id := n.next, asked := n.next } := by
 have hs := h.well.request.back
 have hw : ({ n with ours := (Pure.options n.request).2, waits := true, id := n.next, asked := n.next } : Pure.Neg).Well :=
  ⟨h.well.good, h.well.tries, h.well.timeout, Nat.mod_lt _ (by omega), h.well.first, h.well.request, by show Pure.Fine (Pure.split (Pure.options n.request).2).2; rw [hs]; exact h.well.request, by show (Pure.options (Pure.split (Pure.options n.request).2).2).2 = (Pure.options n.request).2; rw [hs]⟩
 refine h.turn k hb hw rfl rfl rfl rfl rfl rfl h.e3 rfl rfl h.e6 (h.first.later k h.ng h.lt) (h.request.later k h.ng h.lt) ?_ (h.mine.later k h.ng h.lt) (h.given.later k h.ng h.lt)
 show Opts w' _ u (Pure.split (Pure.options n.request).2).2
 rw [hs]
 exact Opts.newer hr hq (y20 (by rw [hq]; exact h.well.request))
theorem NObj.answers (h : NObj w g R f n) (k : Keeps (only g) w w') {q : Pure.Reply} {zs : List (Value × Pure.Opt)} {f' : NF} (hz : y01 zs = q.l) (hfz : FewOpts zs) (ha : AnsTo w w' f (q.code : Int) zs f') (hb : NBlk w' g f') :
  NObj w' g (y0s w w' R) f' { n with naks := if q.code = 3 then n.naks + 1 else n.naks, theirs := if q.code = 2 then q.l else n.theirs } ∧ f'.gm = f.gm := by
 have hw : ({ n with naks := if q.code = 3 then n.naks + 1 else n.naks, theirs := if q.code = 2 then q.l else n.theirs } : Pure.Neg).Well := ⟨h.well.good, h.well.tries, h.well.timeout, h.well.id, h.well.first, h.well.request, h.well.asked, h.well.ours⟩
 rcases ha with ⟨hc, u, qs, rfl, hq, hr⟩ | ⟨hc, rfl⟩ | ⟨h2, h3, rfl⟩
 ·have hc : q.code = 2 := by omega
  refine ⟨h.turn k hb hw rfl rfl rfl rfl rfl h.e2 ?_ h.e4 h.e5 h.e6 (h.first.later k h.ng h.lt) (h.request.later k h.ng h.lt) (h.aopts.later k h.ng h.lt) (h.mine.later k h.ng h.lt) ?_, rfl⟩
  ·show f.naks = if q.code = 3 then n.naks + 1 else n.naks
   rw [if_neg (by omega)]; exact h.e3
  ·show Opts w' _ u (if q.code = 2 then q.l else n.theirs)
   rw [if_pos hc]
   refine Opts.newer hr (hq.trans hz) ⟨?_, ?_⟩
   ·have := congrArg List.length hq
    simp at this
    rw [this]; exact hfz.len
   ·intro p hp
    have h1 : p.2 ∈ y01 zs := by rw [← hq]; exact List.mem_map.2 ⟨p, hp, rfl⟩
    obtain ⟨z, hz1, hz2⟩ := List.mem_map.1 h1
    rw [← hz2]; exact hfz.data z hz1
 ·have hc : q.code = 3 := by omega
  refine ⟨h.turn k hb hw rfl rfl rfl rfl rfl h.e2 ?_ h.e4 h.e5 h.e6 (h.first.later k h.ng h.lt) (h.request.later k h.ng h.lt) (h.aopts.later k h.ng h.lt) (h.mine.later k h.ng h.lt) ?_, rfl⟩
  ·show f.naks + 1 = if q.code = 3 then n.naks + 1 else n.naks
   rw [if_pos hc, h.e3]
  ·show Opts w' _ f.given (if q.code = 2 then q.l else n.theirs)
   rw [if_neg (by omega)]; exact h.given.later k h.ng h.lt
 ·refine ⟨h.turn k hb hw rfl rfl rfl rfl rfl h.e2 ?_ h.e4 h.e5 h.e6 (h.first.later k h.ng h.lt) (h.request.later k h.ng h.lt) (h.aopts.later k h.ng h.lt) (h.mine.later k h.ng h.lt) ?_, rfl⟩
  ·show f'.naks = if q.code = 3 then n.naks + 1 else n.naks
   rw [if_neg (by omega)]; exact h.e3
  ·show Opts w' _ f'.given (if q.code = 2 then q.l else n.theirs)
   rw [if_neg (by omega)]; exact h.given.later k h.ng h.lt
end
structure PI (w1 w : World) (g go : Nat) (R : Nat → Prop) (gm : GM) (s : Pure.Neg × Pure.Said) (m : Nat) (f : NF) (R' : Nat → Prop) (sv : Value) (ps : List (Value × Pure.Pkt)) : Prop where
 obj : NObj w g R' f s.1
 gm : f.gm = gm
 sub : ∀ b, R' b → R b ∨ w1.heap.size ≤ b
 out : Blk w go 48 #[sv, .bool s.2.up, .bool s.2.down, .bool s.2.start, .bool s.2.done]
 sent : PSent w1 w sv ps
 pkts : ps.map Prod.snd = s.2.send
 few : ps.length ≤ m
 apart : ∀ b, R' b → sv.ownBlock ≠ some b
 kept : Keeps (fun b => b = g ∨ b = go) w1 w
 naks : s.1.naks ≤ 1000 + m
structure PS (w1 : World) (g go : Nat) (R : Nat → Prop) (gm : GM) : Prop where
 g1 : g < w1.heap.size
 go1 : go < w1.heap.size
 gm1 : gm < w1.heap.size
 ne : g ≠ go
 nm : gm ≠ go
 nr : ¬ R go
section
variable {w1 w : World} {g go : Nat} {R R' : Nat → Prop} {m : Nat} {gm : GM} {s : Pure.Neg × Pure.Said} {f : NF} {sv : Value} {ps : List (Value × Pure.Pkt)}
theorem PI.sends (H : PS w1 g go R gm) (h : PI w1 w g go R gm s m f R' sv ps) {w2 : World} {f2 : NF} {n2 : Pure.Neg} (hobj : NObj w2 g (y0s w w2 R') f2 n2) (hgm : f2.gm = f.gm) (k2 : Keeps (only g) w w2) (p : Pure.Pkt) (d : Value)
  (hd : Row w2 (fun b => w.heap.size ≤ b) 1 d p.data.length (u8s p.data)) (hm : m ≤ 900) (hnk : n2.naks ≤ s.1.naks + 1) :
  Calls Try.prog 62 #[.pointer (some ⟨go, 0, none⟩), pktV p d] w2 fun e w' => e = .returned (.tuple #[]) ∧ ∃ sv' ps', PI w1 w' g go R gm (n2, s.2.more p) (m + 1) f2 (y0s w w2 R') sv' ps' := by
 have hgo : go ≠ g := fun e => H.ne e.symm
 have hsz := h.kept.size
 have hown := h.sent.own
 have g1 := H.g1
 have go1 := H.go1
 have gm1 := H.gm1
 have hs2 : PSent w1 w2 sv ps := h.sent.other k2 (fun b e => by have e : b = g := e; rw [e]; exact H.g1)
 have hd2 : Row w2 (fun b => w1.heap.size ≤ b ∧ sv.ownBlock ≠ some b ∧ b < w2.heap.size) 1 d p.data.length (u8s p.data) :=
  (hd.strongN (by omega)).mono (fun b hb => ⟨Nat.le_trans hsz hb.1, fun e => by have := y0i hown b e; have := hb.1; omega, hb.2⟩)
 refine (send_any go w1 w2 sv d ps p _ _ _ _ (h.out.keeps k2 (fun e => hgo e)) hs2 H.go1 (by have := h.few; omega) hd2).mono ?_
 rintro e w' ⟨rfl, sv', hO, hps, hob, hk⟩
 refine ⟨rfl, sv', ps ++ [(d, p)], ?_⟩
 have nogo : ∀ b, y0s w w2 R' b → b ≠ go := by
  rintro b ⟨hb | hb, _⟩ rfl
  ·rcases h.sub _ hb with hb | hb
   ·exact H.nr hb
   ·omega
  ·omega
 have noown : ∀ b, y0s w w2 R' b → sv.ownBlock ≠ some b := by
  rintro b ⟨hb | hb, _⟩ e
  ·exact h.apart b hb e
  ·have := y0i hown b e; omega
 have hng : ∀ b, b < w1.heap.size → b ≠ go → ¬ (b = go ∨ sv.ownBlock = some b) := by
  rintro b hb hn (e | e)
  ·exact hn e
  ·have := y0c hown b e; omega
 refine ⟨hobj.keeps hk (hng g g1 H.ne) ?_ ?_, by rw [hgm, h.gm], ?_, hO, hps, ?_, ?_, ?_, ?_, ?_⟩
 ·rw [hgm, h.gm]; exact hng gm gm1 H.nm
 ·rintro b hb (e | e)
  ·exact nogo b hb e
  ·exact noown b hb e
 ·rintro b ⟨hb | hb, _⟩
  ·exact h.sub b hb
  ·exact .inr (Nat.le_trans hsz hb)
 ·show (ps ++ [(d, p)]).map Prod.snd = s.2.send ++ [p]
  rw [List.map_append, h.pkts]; rfl
 ·rw [List.length_append]; have := h.few; simp; omega
 ·intro b hb e
  rcases hob b e with e | e
  ·exact noown b hb e
  ·have := hb.2; omega
 ·refine (h.kept.trans (k2.mono (fun b e => .inl e))).trans' hk ?_
  rintro b (e | e) hl
  ·exact .inr e
  ·have := y0c hown b e; omega
 ·have := h.naks; show n2.naks ≤ _; omega
theorem PI.flag (H : PS w1 g go R gm) (h : PI w1 w g go R gm s m f R' sv ps) (j : Nat) (up dn st dne : Bool) (hj : (#[sv, .bool s.2.up, .bool s.2.down, .bool s.2.start, .bool s.2.done] : Array Value).setIfInBounds j (.bool true) = #[sv, .bool up, .bool dn, .bool st, .bool dne]) :
  PI w1 (w.setCell ⟨go, j, none⟩ (.bool true)) g go R gm (s.1, ⟨s.2.send, up, dn, st, dne⟩) m f R' sv ps := by
 have k : Keeps (only go) w (w.setCell ⟨go, j, none⟩ (.bool true)) := (Keeps.refl (only go) w).put j _
 have hob := h.out.set j (.bool true)
 rw [hj] at hob
 have g1 := H.g1
 have go1 := H.go1
 refine ⟨h.obj.keeps k (fun e => H.ne e) ?_ ?_, h.gm, h.sub, hob, h.sent.other k (fun b e => by have e : b = go := e; rw [e]; exact go1), h.pkts, h.few, h.apart, h.kept.trans (k.mono (fun b e => .inr e)), h.naks⟩
 ·rw [h.gm]; exact fun e => H.nm e
 ·intro b hb e
  have e : b = go := e
  subst e
  rcases h.sub _ hb with hb | hb
  ·exact H.nr hb
  ·omega
theorem PI.turned (H : PS w1 g go R gm) (h : PI w1 w g go R gm s m f R' sv ps) {w2 : World} {f2 : NF} {n2 : Pure.Neg} (hobj : NObj w2 g (y0s w w2 R') f2 n2) (hgm : f2.gm = f.gm) (k2 : Keeps (only g) w w2) (hnk : n2.naks ≤ s.1.naks) :
  PI w1 w2 g go R gm (n2, s.2) m f2 (y0s w w2 R') sv ps := by
 have hsz := h.kept.size
 have hown := h.sent.own
 have g1 := H.g1
 have go1 := H.go1
 refine ⟨hobj, by rw [hgm, h.gm], ?_, h.out.keeps k2 (fun e => H.ne e.symm), h.sent.other k2 (fun b e => by have e : b = g := e; rw [e]; exact g1), h.pkts, h.few, ?_, h.kept.trans (k2.mono (fun b e => .inl e)), by have := h.naks; show n2.naks ≤ _; omega⟩
 ·rintro b ⟨hb | hb, _⟩
  ·exact h.sub b hb
  ·exact .inr (Nat.le_trans hsz hb)
 ·rintro b ⟨hb | hb, _⟩ e
  ·exact h.apart b hb e
  ·have := y0i hown b e; omega
end
theorem y3u : (Try.prog.info? 48).map (·.size) = some 5 := by kernel_rfl
def Outs (w w' : World) (v : Value) (o : Pure.Said) : Prop :=
 ∃ sv, ∃ ps : List (Value × Pure.Pkt), v = .agg #[sv, .bool o.up, .bool o.down, .bool o.start, .bool o.done] ∧ PRow w' (fun b => w.heap.size ≤ b ∧ b < w'.heap.size) sv ps ∧ ps.map Prod.snd = o.send ∧ ps.length ≤ 100
def y10 (w w' : World) (g : Nat) (R : Nat → Prop) (f : NF) (n : Pure.Neg) : Prop :=
 ∃ f' R', NObj w' g R' f' n ∧ f'.gm = f.gm ∧ (∀ b, R' b → R b ∨ w.heap.size ≤ b) ∧ Keeps (fun b => b = g ∨ b = f.gm) w w'
theorem PI.more {w1 w : World} {g go : Nat} {R R' : Nat → Prop} {m : Nat} {gm : GM} {s : Pure.Neg × Pure.Said} {f : NF} {sv : Value} {ps : List (Value × Pure.Pkt)} (h : PI w1 w g go R gm s m f R' sv ps) : PI w1 w g go R gm s (m + 1) f R' sv ps :=
 ⟨h.obj, h.gm, h.sub, h.out, h.sent, h.pkts, Nat.le_succ_of_le h.few, h.apart, h.kept, by have := h.naks; omega⟩
theorem act_else (r : Option Pure.Reply) (s : Pure.Neg × Pure.Said) (X : Nat) (h : X ≠ 0 ∧ X ≠ 1 ∧ X ≠ 2 ∧ X ≠ 3 ∧ X ≠ 6 ∧ X ≠ 7 ∧ X ≠ 8 ∧ X ≠ 9 ∧ X ≠ 10 ∧ X ≠ 11) : Pure.negActP r s X = s := by
 unfold Pure.negActP
 split <;> first | rfl | omega
theorem y8a (g : Nat) (R Fl Fc : Nat → Prop) (f : NF) (n : Pure.Neg) (lv d ov : Value) (l : List Nat) (p : Pure.Pkt) (code : Nat) (zs : List (Value × Pure.Opt)) (r : Option Pure.Reply) (w : World) (h : NObj w g R f n)
  (hl : Row w Fl 1 lv l.length (ints l)) (hFl : ∀ b, Fl b → b ≠ g) (hd : Row w Fc 1 d p.data.length (u8s p.data)) (hz : ORow w Fc ov zs) (hfz : FewOpts zs) (hFc : ∀ b, Fc b → b < w.heap.size ∧ b ≠ g)
  (hr : (r = none ∧ p.code ≠ 5 ∧ ∀ a ∈ l, a ≠ 7 ∧ a ≠ 8 ∧ a ≠ 11) ∨ r = some ⟨p, code, y01 zs⟩) (hll : l.length ≤ 100) (hnk : n.naks ≤ 1000) :
  Calls Try.prog 45 #[.pointer (some ⟨g, 0, none⟩), lv, causeV p d (code : Int) ov] w fun e w' => ∃ v, e = .returned v ∧ Outs w w' v (n.actsP l r).2 ∧ y10 w w' g R f (n.actsP l r).1 := by
 obtain ⟨LA, lc, rfl, _⟩ := hl.form
 obtain ⟨D, cd, rfl, _⟩ := hd.form
 obtain ⟨O, co, rfl, _⟩ := hz.form
 have hgl := h.blk.lt
 have hml := Blk.lt h.mach
 have HI := xhd y3u
 obtain ⟨rc, hrc⟩ : ∃ q, q = w.heap.size := ⟨_, rfl⟩
 obtain ⟨ro, hro⟩ : ∃ q, q = rc + 1 := ⟨_, rfl⟩
 obtain ⟨go, hgo⟩ : ∃ q, q = ro + 1 := ⟨_, rfl⟩
 go_enter Try.func45, Try.ntmps45
 go_upto_region 2 with fail
 simp only [← hrc, ← hro, ← hgo]
 generalize hw1 : ((w.alloc _).alloc _).alloc _ = w1
 have hk1 : Keeps y02 w w1 := by rw [← hw1]; exact (((Keeps.refl _ w).alloc _).alloc _).alloc _
 have hC1 : Blk w1 rc 88 #[.int .i64 p.code, .int .i64 p.id, .slice D p.data.length cd, .int .i64 (code : Int), .slice O zs.length co] := by rw [← hw1, hrc]; exact ((Blk.new w _ _).alloc _).alloc _
 have hR1 : Blk w1 ro 48 #[.slice none 0 0, .bool false, .bool false, .bool false, .bool false] := by
  rw [← hw1, show ro = (w.alloc (.cells #[.int .i64 p.code, .int .i64 p.id, .slice D p.data.length cd, .int .i64 (code : Int), .slice O zs.length co] 88)).heap.size by rw [hro, hrc]; simp]
  exact (Blk.new _ _ _).alloc _
 have hO1 : Blk w1 go 48 #[.slice none 0 0, .bool false, .bool false, .bool false, .bool false] := by
  rw [← hw1, show go = ((w.alloc (.cells #[.int .i64 p.code, .int .i64 p.id, .slice D p.data.length cd, .int .i64 (code : Int), .slice O zs.length co] 88)).alloc (.cells #[.slice none 0 0, .bool false, .bool false, .bool false, .bool false] 48)).heap.size by rw [hgo, hro, hrc]; simp]
  exact Blk.new _ _ _
 have hs1 : w1.heap.size = rc + 3 := by rw [← hw1, hrc]; simp
 have HPS := xhd (show PS w1 g go R f.gm from ⟨by omega, by omega, by omega, by omega, by omega, fun e => by have := h.lt go e; omega⟩)
 have HPI0 := xhd (show PI w1 w1 g go R f.gm (n, Pure.mute) 0 f R (.slice none 0 0) [] from
  ⟨h.keeps hk1 (fun h => h) (fun h => h) (fun _ _ h => h), rfl, fun b hb => .inl hb, hO1, PSent.nil w1, rfl, by simp, fun b _ e => (by cases e), Keeps.refl _ _, (by show n.naks ≤ 1000 + 0; omega)⟩)
 have HKW1 := xhd hk1
 have HC1 := xhd hC1
 have HR1 := xhd hR1
 have HL1 := xhd (hl.keeps hk1 (fun _ _ h => h))
 have HD1 := xhd (hd.keeps hk1 (fun _ _ h => h))
 have HZ1 := xhd (hz.keeps hk1 (fun _ _ h => h))
 have HFL := xhd (show ∀ b, Fl b → b < w.heap.size → ¬ (b = g ∨ b = go) from fun b hb hlt e => by rcases e with e | e; exact hFl b hb e; omega)
 have HFC := xhd hFc
 have HFZ := xhd hfz
 have HR := xhd hr
 have HRCN := xhd (show ¬ (rc = g ∨ rc = go) by omega)
 have HRON := xhd (show ¬ (ro = g ∨ ro = go) by omega)
 have HGW := xhd (show go = w.heap.size + 2 by omega)
 have HRW := xhd (show ro = w.heap.size + 1 by omega)
 have HLS := xhd (hl.strongN (by omega))
 have HMG := xhd (show f.gm < w.heap.size by omega)
 have HLT := xhd (fun b (hb : R b) => show b < w.heap.size from by have := h.lt b hb; omega)
 clear hw1 hk1 hC1 hR1 hO1 h hl hFl hd hz hfz hFc hr hgl hml hs1 hrc hro hgo
 go_wp2_with fail
 go_loopw [12] (fun i wr => ∃ k : Nat, k ≤ l.length ∧ i = .int .i64 (k : Int) ∧ ∃ f' R' sv ps, PI w1 wr g go R f.gm ((l.take k).foldl (Pure.negActP r) (n, Pure.mute)) k f' R' sv ps) (fun i _ => l.length - (intOf i).toNat)
 case atStart => exact ⟨0, by omega, rfl, f, R, _, [], HPI0.out⟩
 case round =>
  clear HPI0
  obtain ⟨k, hk, rfl, f', R', sv, ps, hpi⟩ := hrel
  obtain ⟨s, hs⟩ : ∃ s, s = (l.take k).foldl (Pure.negActP r) (n, Pure.mute) := ⟨_, rfl⟩
  rw [← hs] at hpi
  have HSS := xhd hs
  have HPI := xhd hpi
  clear hs hpi
  by_cases hkl : k < l.length
  ·have i0 : (0 : Int) ≤ (k : Int) := by omega
   have i1 : (k : Int) < (l.length : Int) := by omega
   obtain ⟨bl, ol, rfl, hFb, hcl⟩ := (HLS.out.keeps HKW1.out (fun _ _ h => h)).cellAt (by omega)
   have hcx : wr.cell? ⟨bl, ol + k, none⟩ = some (.int .i64 ((l.getD k 0 : Nat) : Int)) := y1q HPI.out.kept (hcl k _ (ints_at l k hkl)) (HFL.out bl hFb.1 hFb.2)
   obtain ⟨X, hX⟩ : ∃ X, X = l.getD k 0 := ⟨_, rfl⟩
   rw [← hX] at hcx
   have hlk : l[k]? = some X := by rw [hX, List.getD_eq_getElem?_getD, List.getElem?_eq_getElem hkl]; rfl
   have HMEM := xhd (show X ∈ l from List.mem_of_getElem? hlk)
   have HFOLD := xhd (show (l.take (k + 1)).foldl (Pure.negActP r) (n, Pure.mute) = Pure.negActP r s X by rw [Pure.take_snoc l k X hlk, List.foldl_append, ← HSS.out]; rfl)
   have HCB := xhd (HC1.out.keeps HPI.out.kept HRCN.out)
   have HDR := xhd (HD1.out.keeps HPI.out.kept (fun b hb e => by have h1 := HFC.out b hb; have := HGW.out; rcases e with e | e; exact h1.2 e; omega))
   have HZR := xhd (HZ1.out.keeps HPI.out.kept (fun b hb e => by have h1 := HFC.out b hb; have := HGW.out; rcases e with e | e; exact h1.2 e; omega))
   clear hcl hFb hX hlk
   by_cases q0 : X = 0
   ·subst q0
    have HC0 := HCB
    have HP2 := xhd (HPI.out.flag HPS.out 1 true s.2.down s.2.start s.2.done rfl)
    have c0 : wr.cell? ⟨go, 1, none⟩ = some (.bool s.2.up) := by rw [HPI.out.out.cell]; rfl
    have f0 := HPI.out.out.frozen 1
    go_wp2_with fail
    go_roundw
    case rel => exact ⟨k + 1, by omega, by go_num, _, _, _, _, by rw [HFOLD.out]; exact HP2.out.more⟩
    case measure => simp [intOf] <;> omega
   have e0 : ((X : Int) == 0) = false := by rw [beq_eq_false_iff_ne]; omega
   by_cases q1 : X = 1
   ·subst q1
    have HC0 := HCB
    have HP2 := xhd (HPI.out.flag HPS.out 2 s.2.up true s.2.start s.2.done rfl)
    have c0 : wr.cell? ⟨go, 2, none⟩ = some (.bool s.2.down) := by rw [HPI.out.out.cell]; rfl
    have f0 := HPI.out.out.frozen 2
    go_wp2_with fail
    go_roundw
    case rel => exact ⟨k + 1, by omega, by go_num, _, _, _, _, by rw [HFOLD.out]; exact HP2.out.more⟩
    case measure => simp [intOf] <;> omega
   have e1 : ((X : Int) == 1) = false := by rw [beq_eq_false_iff_ne]; omega
   by_cases q2 : X = 2
   ·subst q2
    have HC0 := HCB
    have HP2 := xhd (HPI.out.flag HPS.out 3 s.2.up s.2.down true s.2.done rfl)
    have c0 : wr.cell? ⟨go, 3, none⟩ = some (.bool s.2.start) := by rw [HPI.out.out.cell]; rfl
    have f0 := HPI.out.out.frozen 3
    obtain ⟨zf, hzf, hze, hzw⟩ := HP2.out.obj.first
    have HBG := xhd (y2q R' g f' zf _ HP2.out.obj.blk hzf hzw)
    have HZE := xhd hze
    clear hzf hze hzw
    go_wp2_with fail
    refine HBG.out.mono ?_
    rintro e w8 ⟨rfl, u8', q8, hq8, hr8, hb8, hk8⟩
    have HP8 := xhd (HP2.out.turned HPS.out (HP2.out.obj.begun hk8 (hq8.trans HZE.out) hr8 hb8) rfl hk8 (Nat.zero_le _))
    clear hq8 hr8 hb8 hk8 HBG c0 f0
    go_wp2_with fail
    go_roundw
    case rel => exact ⟨k + 1, by omega, by go_num, _, _, _, _, by rw [HFOLD.out]; exact HP8.out.more⟩
    case measure => simp [intOf] <;> omega
   have e2 : ((X : Int) == 2) = false := by rw [beq_eq_false_iff_ne]; omega
   by_cases q3 : X = 3
   ·subst q3
    have HC0 := HCB
    have HP2 := xhd (HPI.out.flag HPS.out 4 s.2.up s.2.down s.2.start true rfl)
    have c0 : wr.cell? ⟨go, 4, none⟩ = some (.bool s.2.done) := by rw [HPI.out.out.cell]; rfl
    have f0 := HPI.out.out.frozen 4
    go_wp2_with fail
    go_roundw
    case rel => exact ⟨k + 1, by omega, by go_num, _, _, _, _, by rw [HFOLD.out]; exact HP2.out.more⟩
    case measure => simp [intOf] <;> omega
   have e3 : ((X : Int) == 3) = false := by rw [beq_eq_false_iff_ne]; omega
   by_cases q6 : X = 6
   ·subst q6
    have HC0 := HCB
    obtain ⟨zq, hzq, hqe, hqw⟩ := HPI.out.obj.request
    have HAS := xhd (ask_as R' g f' zq s.1.next wr HPI.out.obj.blk (fun b hb => ⟨HPI.out.obj.lt b hb, fun e => HPI.out.obj.ng (e ▸ hb)⟩) hzq hqw (by rw [HPI.out.obj.e2]; exact HPI.out.obj.well.id) (by rw [HPI.out.obj.e2]; rfl))
    rw [hqe] at HAS
    have HQE := xhd hqe
    clear hzq hqe hqw
    go_wp2_with fail
    refine HAS.out.mono ?_
    rintro e w8 ⟨B, cb, u8', q8, rfl, hrow8, hq8, hr8, hb8, hk8⟩
    have HSN := xhd (HPI.out.sends HPS.out (HPI.out.obj.asks hk8 hq8 hr8 hb8) rfl hk8 ⟨1, (s.1.next : Nat), (Pure.options s.1.request).2⟩ (.slice B (Pure.options s.1.request).2.length cb) hrow8 (by omega) (Nat.le_succ _))
    clear hrow8 hq8 hr8 hb8 hk8 HAS
    go_wp2_with fail
    refine HSN.out.mono ?_
    rintro e w9 ⟨rfl, sv9, ps9, hpi9⟩
    have HP9 := xhd hpi9
    clear hpi9 HSN
    go_wp2_with fail
    go_roundw
    case rel => exact ⟨k + 1, by omega, by go_num, _, _, _, _, by rw [HFOLD.out]; exact HP9.out⟩
    case measure => simp [intOf] <;> omega
   have e6 : ((X : Int) == 6) = false := by rw [beq_eq_false_iff_ne]; omega
   by_cases q7 : X = 7
   ·subst q7
    have HC0 := HCB
    have b0 : wr.cell? ⟨rc, 0, none⟩ = some (.int .i64 p.code) := by rw [HCB.out.cell]; rfl
    have b1 : wr.cell? ⟨rc, 1, none⟩ = some (.int .i64 p.id) := by rw [HCB.out.cell]; rfl
    have b2 : wr.cell? ⟨rc, 2, none⟩ = some (.slice D p.data.length cd) := by rw [HCB.out.cell]; rfl
    have b3 : wr.cell? ⟨rc, 3, none⟩ = some (.int .i64 (code : Int)) := by rw [HCB.out.cell]; rfl
    have b4 : wr.cell? ⟨rc, 4, none⟩ = some (.slice O zs.length co) := by rw [HCB.out.cell]; rfl
    have hrs : r = some ⟨p, code, y01 zs⟩ := by
     rcases HR.out with ⟨_, _, hn⟩ | h
     ·have := hn _ HMEM.out; omega
     ·exact h
    have HFOLD := xhd (HFOLD.out.trans (show Pure.negActP r s 7 = ({ s.1 with naks := if code = 3 then s.1.naks + 1 else s.1.naks, theirs := if code = 2 then y01 zs else s.1.theirs }, s.2.more ⟨code, p.id, (Pure.options (y01 zs)).2⟩) by rw [hrs]; rfl))
    have HAN := xhd (y3x Fc g f' p (.slice D p.data.length cd) (code : Int) (.slice O zs.length co) zs wr HPI.out.obj.blk (fun b hb => ⟨Nat.lt_of_lt_of_le (HFC.out b hb).1 (Nat.le_trans HKW1.out.size HPI.out.kept.size), (HFC.out b hb).2⟩) HZR.out HFZ.out (by rw [HPI.out.obj.e3]; have := HPI.out.naks; omega))
    clear hrs
    go_wp2_with fail
    refine HAN.out.mono ?_
    rintro e w8 ⟨B, cb, f8, rfl, hrow8, ha8, hb8, hk8⟩
    obtain ⟨ho8, hg8⟩ := HPI.out.obj.answers (q := ⟨p, code, y01 zs⟩) hk8 rfl HFZ.out ha8 hb8
    have HSN := xhd (HPI.out.sends HPS.out ho8 hg8 hk8 ⟨code, p.id, (Pure.options (y01 zs)).2⟩ (.slice B (Pure.options (y01 zs)).2.length cb) hrow8 (by omega) (by show (if code = 3 then s.1.naks + 1 else s.1.naks) ≤ _; split <;> omega))
    clear hrow8 ha8 hb8 hk8 HAN ho8 hg8
    clear b0 b1 b2 b3 b4
    go_wp2_with fail
    refine HSN.out.mono ?_
    rintro e w9 ⟨rfl, sv9, ps9, hpi9⟩
    have HP9 := xhd hpi9
    clear hpi9 HSN
    go_wp2_with fail
    go_roundw
    case rel => exact ⟨k + 1, by omega, by go_num, _, _, _, _, by rw [HFOLD.out]; exact HP9.out⟩
    case measure => simp [intOf] <;> omega
   have e7 : ((X : Int) == 7) = false := by rw [beq_eq_false_iff_ne]; omega
   by_cases q8 : X = 8
   ·subst q8
    have HC0 := HCB
    have b0 : wr.cell? ⟨rc, 0, none⟩ = some (.int .i64 p.code) := by rw [HCB.out.cell]; rfl
    have b1 : wr.cell? ⟨rc, 1, none⟩ = some (.int .i64 p.id) := by rw [HCB.out.cell]; rfl
    have b2 : wr.cell? ⟨rc, 2, none⟩ = some (.slice D p.data.length cd) := by rw [HCB.out.cell]; rfl
    have b3 : wr.cell? ⟨rc, 3, none⟩ = some (.int .i64 (code : Int)) := by rw [HCB.out.cell]; rfl
    have b4 : wr.cell? ⟨rc, 4, none⟩ = some (.slice O zs.length co) := by rw [HCB.out.cell]; rfl
    have hrs : r = some ⟨p, code, y01 zs⟩ := by
     rcases HR.out with ⟨_, _, hn⟩ | h
     ·have := hn _ HMEM.out; omega
     ·exact h
    have HFOLD := xhd (HFOLD.out.trans (show Pure.negActP r s 8 = ({ s.1 with naks := if code = 3 then s.1.naks + 1 else s.1.naks, theirs := if code = 2 then y01 zs else s.1.theirs }, s.2.more ⟨code, p.id, (Pure.options (y01 zs)).2⟩) by rw [hrs]; rfl))
    have HAN := xhd (y3x Fc g f' p (.slice D p.data.length cd) (code : Int) (.slice O zs.length co) zs wr HPI.out.obj.blk (fun b hb => ⟨Nat.lt_of_lt_of_le (HFC.out b hb).1 (Nat.le_trans HKW1.out.size HPI.out.kept.size), (HFC.out b hb).2⟩) HZR.out HFZ.out (by rw [HPI.out.obj.e3]; have := HPI.out.naks; omega))
    clear hrs
    go_wp2_with fail
    refine HAN.out.mono ?_
    rintro e w8 ⟨B, cb, f8, rfl, hrow8, ha8, hb8, hk8⟩
    obtain ⟨ho8, hg8⟩ := HPI.out.obj.answers (q := ⟨p, code, y01 zs⟩) hk8 rfl HFZ.out ha8 hb8
    have HSN := xhd (HPI.out.sends HPS.out ho8 hg8 hk8 ⟨code, p.id, (Pure.options (y01 zs)).2⟩ (.slice B (Pure.options (y01 zs)).2.length cb) hrow8 (by omega) (by show (if code = 3 then s.1.naks + 1 else s.1.naks) ≤ _; split <;> omega))
    clear hrow8 ha8 hb8 hk8 HAN ho8 hg8
    clear b0 b1 b2 b3 b4
    go_wp2_with fail
    refine HSN.out.mono ?_
    rintro e w9 ⟨rfl, sv9, ps9, hpi9⟩
    have HP9 := xhd hpi9
    clear hpi9 HSN
    go_wp2_with fail
    go_roundw
    case rel => exact ⟨k + 1, by omega, by go_num, _, _, _, _, by rw [HFOLD.out]; exact HP9.out⟩
    case measure => simp [intOf] <;> omega
   have e8 : ((X : Int) == 8) = false := by rw [beq_eq_false_iff_ne]; omega
   by_cases q9 : X = 9
   ·subst q9
    have HC0 := HCB
    have HOW := xhd (own_as g f' 5 none 0 0 s.1.next wr HPI.out.obj.blk (by rw [HPI.out.obj.e2]; exact HPI.out.obj.well.id) (by rw [HPI.out.obj.e2]; rfl))
    go_wp2_with fail
    refine HOW.out.mono ?_
    rintro e w8 ⟨rfl, hb8, hk8⟩
    have HSN := xhd (HPI.out.sends HPS.out (HPI.out.obj.owned hk8 hb8) rfl hk8 ⟨5, (s.1.next : Nat), []⟩ (.slice none 0 0) (Row.nil _ _ _) (by omega) (Nat.le_succ _))
    clear hb8 hk8 HOW
    go_wp2_with fail
    refine HSN.out.mono ?_
    rintro e w9 ⟨rfl, sv9, ps9, hpi9⟩
    have HP9 := xhd hpi9
    clear hpi9 HSN
    go_wp2_with fail
    go_roundw
    case rel => exact ⟨k + 1, by omega, by go_num, _, _, _, _, by rw [HFOLD.out]; exact HP9.out⟩
    case measure => simp [intOf] <;> omega
   have e9 : ((X : Int) == 9) = false := by rw [beq_eq_false_iff_ne]; omega
   by_cases q10 : X = 10
   ·subst q10
    have HC0 := HCB
    have b0 : wr.cell? ⟨rc, 0, none⟩ = some (.int .i64 p.code) := by rw [HCB.out.cell]; rfl
    have b1 : wr.cell? ⟨rc, 1, none⟩ = some (.int .i64 p.id) := by rw [HCB.out.cell]; rfl
    have b2 : wr.cell? ⟨rc, 2, none⟩ = some (.slice D p.data.length cd) := by rw [HCB.out.cell]; rfl
    have b3 : wr.cell? ⟨rc, 3, none⟩ = some (.int .i64 (code : Int)) := by rw [HCB.out.cell]; rfl
    have b4 : wr.cell? ⟨rc, 4, none⟩ = some (.slice O zs.length co) := by rw [HCB.out.cell]; rfl
    by_cases h5 : p.code = 5
    ·have HFOLD := xhd (HFOLD.out.trans (show Pure.negActP r s 10 = (s.1, s.2.more ⟨6, p.id, []⟩) by
      rcases HR.out with ⟨_, hn, _⟩ | rfl
      ·exact absurd h5 hn
      ·show (if p.code = 5 then (s.1, s.2.more ⟨6, p.id, []⟩) else Pure.sendOwn s 6 []) = _
       rw [if_pos h5]))
     have HOW := xhd (y5j g f' p (.slice D p.data.length cd) (code : Int) (.slice O zs.length co) wr HPI.out.obj.blk h5)
     clear h5
     go_wp2_with fail
     refine HOW.out.mono ?_
     rintro e w8 ⟨rfl, hb8, hk8⟩
     have HSN := xhd (HPI.out.sends HPS.out (HPI.out.obj.same hk8 hb8) rfl hk8 ⟨6, p.id, []⟩ (.slice none 0 0) (Row.nil _ _ _) (by omega) (Nat.le_succ _))
     clear hb8 hk8 HOW
     clear b0 b1 b2 b3 b4
     go_wp2_with fail
     refine HSN.out.mono ?_
     rintro e w9 ⟨rfl, sv9, ps9, hpi9⟩
     have HP9 := xhd hpi9
     clear hpi9 HSN
     go_wp2_with fail
     go_roundw
     case rel => exact ⟨k + 1, by omega, by go_num, _, _, _, _, by rw [HFOLD.out]; exact HP9.out⟩
     case measure => simp [intOf] <;> omega
    ·have HFOLD := xhd (HFOLD.out.trans (show Pure.negActP r s 10 = Pure.sendOwn s 6 [] by
      rcases HR.out with ⟨rfl, _⟩ | rfl
      ·rfl
      ·show (if p.code = 5 then (s.1, s.2.more ⟨6, p.id, []⟩) else Pure.sendOwn s 6 []) = _
       rw [if_neg h5]))
     have HOW := xhd (y5i g f' p (.slice D p.data.length cd) (code : Int) (.slice O zs.length co) s.1.next wr HPI.out.obj.blk (by rw [HPI.out.obj.e2]; exact HPI.out.obj.well.id) (by rw [HPI.out.obj.e2]; rfl) h5)
     clear h5
     go_wp2_with fail
     refine HOW.out.mono ?_
     rintro e w8 ⟨rfl, hb8, hk8⟩
     have HSN := xhd (HPI.out.sends HPS.out (HPI.out.obj.owned hk8 hb8) rfl hk8 ⟨6, (s.1.next : Nat), []⟩ (.slice none 0 0) (Row.nil _ _ _) (by omega) (Nat.le_succ _))
     clear hb8 hk8 HOW
     clear b0 b1 b2 b3 b4
     go_wp2_with fail
     refine HSN.out.mono ?_
     rintro e w9 ⟨rfl, sv9, ps9, hpi9⟩
     have HP9 := xhd hpi9
     clear hpi9 HSN
     go_wp2_with fail
     go_roundw
     case rel => exact ⟨k + 1, by omega, by go_num, _, _, _, _, by rw [HFOLD.out]; exact HP9.out⟩
     case measure => simp [intOf] <;> omega
   have e10 : ((X : Int) == 10) = false := by rw [beq_eq_false_iff_ne]; omega
   by_cases q11 : X = 11
   ·subst q11
    have HC0 := HCB
    have b0 : wr.cell? ⟨rc, 0, none⟩ = some (.int .i64 p.code) := by rw [HCB.out.cell]; rfl
    have b1 : wr.cell? ⟨rc, 1, none⟩ = some (.int .i64 p.id) := by rw [HCB.out.cell]; rfl
    have b2 : wr.cell? ⟨rc, 2, none⟩ = some (.slice D p.data.length cd) := by rw [HCB.out.cell]; rfl
    have b3 : wr.cell? ⟨rc, 3, none⟩ = some (.int .i64 (code : Int)) := by rw [HCB.out.cell]; rfl
    have b4 : wr.cell? ⟨rc, 4, none⟩ = some (.slice O zs.length co) := by rw [HCB.out.cell]; rfl
    have hrs : r = some ⟨p, code, y01 zs⟩ := by
     rcases HR.out with ⟨_, _, hn⟩ | h
     ·have := hn _ HMEM.out; omega
     ·exact h
    obtain ⟨E, hE⟩ : ∃ E, E = (Pure.encode p).2.take 1496 := ⟨_, rfl⟩
    have HFOLD := xhd (HFOLD.out.trans (show Pure.negActP r s 11 = Pure.sendOwn s 7 E by rw [hrs, hE]; rfl))
    have HRT := xhd (y6n Fc (.slice D p.data.length cd) p wr (fun b hb => Nat.lt_of_lt_of_le (HFC.out b hb).1 (Nat.le_trans HKW1.out.size HPI.out.kept.size)) HDR.out)
    rw [← hE] at HRT
    clear hrs hE
    go_wp2_with fail
    refine HRT.out.mono ?_
    rintro e w7 ⟨B, cb, rfl, hrow7, hk7⟩
    have HOW := xhd (own_as g f' 7 B E.length cb s.1.next w7 (HPI.out.obj.blk.keeps hk7 (fun h => h)) (by rw [HPI.out.obj.e2]; exact HPI.out.obj.well.id) (by rw [HPI.out.obj.e2]; rfl))
    have HR7 := xhd hrow7
    have HK7 := xhd hk7
    clear hrow7 hk7 HRT
    go_wp2_with fail
    refine HOW.out.mono ?_
    rintro e w8 ⟨rfl, hb8, hk8⟩
    have hk78 : Keeps (only g) wr w8 := (HK7.out.mono (fun _ h => h.elim)).trans hk8
    have hrow8 := HR7.out.keeps hk8 (fun b hb e => by have e : b = g := e; have := HPI.out.obj.blk.lt; omega)
    have HSN := xhd (HPI.out.sends HPS.out (HPI.out.obj.owned hk78 hb8) rfl hk78 ⟨7, (s.1.next : Nat), E⟩ (.slice B E.length cb) hrow8 (by omega) (Nat.le_succ _))
    clear hb8 hk8 HOW hk78 hrow8 HR7 HK7
    clear b0 b1 b2 b3 b4
    go_wp2_with fail
    refine HSN.out.mono ?_
    rintro e w9 ⟨rfl, sv9, ps9, hpi9⟩
    have HP9 := xhd hpi9
    clear hpi9 HSN
    go_wp2_with fail
    go_roundw
    case rel => exact ⟨k + 1, by omega, by go_num, _, _, _, _, by rw [HFOLD.out]; exact HP9.out⟩
    case measure => simp [intOf] <;> omega
   have e11 : ((X : Int) == 11) = false := by rw [beq_eq_false_iff_ne]; omega
   have HFOLD := xhd (HFOLD.out.trans (act_else r s X ⟨q0, q1, q2, q3, q6, q7, q8, q9, q10, q11⟩))
   have HP9 := xhd (show PI w1 wr g go R f.gm s (k + 1) f' R' sv ps from ⟨HPI.out.obj, HPI.out.gm, HPI.out.sub, HPI.out.out, HPI.out.sent, HPI.out.pkts, Nat.le_succ_of_le HPI.out.few, HPI.out.apart, HPI.out.kept, by have := HPI.out.naks; omega⟩)
   clear q0 q1 q2 q3 q6 q7 q8 q9 q10 q11
   go_wp2_with fail
   go_roundw
   case rel => exact ⟨k + 1, by omega, by go_num, _, _, _, _, by rw [HFOLD.out]; exact HP9.out⟩
   case measure => simp [intOf] <;> omega
  ·have hkk : k = l.length := by omega
   subst hkk
   have HE := xhd (show s = n.actsP l r by rw [HSS.out, List.take_length]; rfl)
   have hO := HPI.out.out
   have hRo := HR1.out.keeps HPI.out.kept HRON.out
   have x0 : wr.cell? ⟨go, 0, none⟩ = some sv := by rw [hO.cell]; rfl
   have x1 : wr.cell? ⟨go, 1, none⟩ = some (.bool s.2.up) := by rw [hO.cell]; rfl
   have x2 : wr.cell? ⟨go, 2, none⟩ = some (.bool s.2.down) := by rw [hO.cell]; rfl
   have x3 : wr.cell? ⟨go, 3, none⟩ = some (.bool s.2.start) := by rw [hO.cell]; rfl
   have x4 : wr.cell? ⟨go, 4, none⟩ = some (.bool s.2.done) := by rw [hO.cell]; rfl
   have z0 : wr.cell? ⟨ro, 0, none⟩ = some (.slice none 0 0) := by rw [hRo.cell]; rfl
   have z1 : wr.cell? ⟨ro, 1, none⟩ = some (.bool false) := by rw [hRo.cell]; rfl
   have z2 : wr.cell? ⟨ro, 2, none⟩ = some (.bool false) := by rw [hRo.cell]; rfl
   have z3 : wr.cell? ⟨ro, 3, none⟩ = some (.bool false) := by rw [hRo.cell]; rfl
   have z4 : wr.cell? ⟨ro, 4, none⟩ = some (.bool false) := by rw [hRo.cell]; rfl
   have f0 := hRo.frozen 0
   have f1 := hRo.frozen 1
   have f2 := hRo.frozen 2
   have f3 := hRo.frozen 3
   have f4 := hRo.frozen 4
   obtain ⟨A2, c2, hsv⟩ := y0b HPI.out.sent.own
   rw [hsv] at x0
   have HZ := xhd (((((hRo.set 0 (.slice A2 ps.length c2)).set 1 (.bool s.2.up)).set 2 (.bool s.2.down)).set 3 (.bool s.2.start)).set 4 (.bool s.2.done))
   have KR := (((((Keeps.refl (only ro) wr).put 0 (.slice A2 ps.length c2)).put 1 (.bool s.2.up)).put 2 (.bool s.2.down)).put 3 (.bool s.2.start)).put 4 (.bool s.2.done)
   have HROW := xhd (((HPI.out.sent.other KR (fun b e => by have e : b = ro := e; have := HRW.out; have := HGW.out; have := HPS.out.go1; omega)).row).mono (G := fun b => w.heap.size ≤ b ∧ b < _) (fun b hb => ⟨Nat.le_trans HKW1.out.size hb.1, hb.2⟩))
   have HB := xhd (show y10 w _ g R f s.1 from ⟨f', R', HPI.out.obj.keeps KR (fun e => by have e : g = ro := e; exact HRON.out (.inl e.symm)) (fun e => by
     have e : f'.gm = ro := e
     rw [HPI.out.gm] at e
     have := HPS.out.gm1
     have h1 := HMG.out
     have := HRW.out
     omega) (fun b hb e => by
     have e : b = ro := e
     rcases HPI.out.sub b hb with h1 | h1
     ·have := HLT.out b h1; have := HRW.out; omega
     ·have := HRW.out; have := HGW.out; have := HPS.out.go1; omega), HPI.out.gm, fun b hb => (HPI.out.sub b hb).imp (fun h => h) (fun h => Nat.le_trans HKW1.out.size h),
    (((HKW1.out.mono (T := fun b => b = g ∨ b = f.gm) (fun _ h => h.elim)).trans' HPI.out.kept (fun i hi hl => by rcases hi with e | e; exact .inl e; have := HGW.out; omega)).trans' KR (fun i hi hl => by have e : i = ro := hi; have := HRW.out; omega))⟩)
   have HPK := xhd HPI.out.pkts
   have HFW := xhd (show ps.length ≤ 100 by have := HPI.out.few; omega)
   rw [hsv] at HROW
   clear KR hO hRo hsv
   go_wp2_with fail
   refine bodyPost_ret (y0l rfl _ _ ro 48 _ (0, 0) _ rfl HZ.out Try.underlying48 rfl (by rw [HI.out]; rfl)) rfl ?_
   rw [← HE.out]
   exact ⟨_, rfl, ⟨_, ps, rfl, HROW.out, HPK.out, HFW.out⟩, HB.out⟩
namespace Pure
def fewRules : List Rule := [rangeRule 64 1500, ⟨5, 4, 1, 0, 0, [], false⟩]
theorem few_none : ∀ r ∈ [(⟨5, 4, 1, 0, 0, [], false⟩ : Rule)], r.need = false := by
 intro r hr
 obtain rfl : r = ⟨5, 4, 1, 0, 0, [], false⟩ := by simpa using hr
 rfl
theorem few_great {b : List UInt8} (h : b.length = 2) (hg : 1500 < bnum b) (rejects : Bool) : judge fewRules [(1, b)] rejects = if rejects = true then (4, [(1, b)]) else (3, [(1, wide 1500 2)]) := by
 unfold fewRules
 rw [y71 64 1500 _ few_none _ h, if_neg (by omega), if_neg (show ¬ bnum b < 64 by omega)]
end Pure
theorem y5s : (Try.prog.info? 58).map (fun i => (i.zero, i.size, i.bytes)) = some (some (.agg #[.int .i64 0, .int .i64 0, .int .i64 0, .int .i64 0, .int .i64 0, .slice none 0 0, .bool false]), 7, 72) := by kernel_rfl
theorem y5e (ps : List (Value × Pure.Rule)) (h : ∀ p ∈ ps, p.1.oneCell' = true) : ∀ u ∈ y0h ps, u.oneCell' = true := by
 intro u hu
 obtain ⟨p, hp, hu⟩ := List.mem_flatMap.1 hu
 simp at hu
 rcases hu with rfl | rfl | rfl | rfl | rfl | rfl | rfl
 ·rfl
 ·rfl
 ·rfl
 ·rfl
 ·rfl
 ·exact h p hp
 ·rfl
section
variable {w : World} {o : Oper} {a : Act} {Q : Exit → Act → World → Prop}
theorem y2g {ops : Array Oper} {rest : List Oper} (hgd : o.guard = none) (s x : Operand) (ho : o.op = .call { callee := .builtin .append, args := #[s, x], argTypes := #[29, 29] })
  (base : Nat) (v : Value) (qs : List (Value × Pure.Rule)) (D : Value) (r : Pure.Rule) (hone : D.oneCell' = true) (hs : a.eval s = v) (hx : a.eval x = .slice (some ⟨w.heap.size, 0, none⟩) 1 1) (hR : w.ownsRow base 58 7 v qs.length (y0h qs)) (hq : qs.length ≤ 1000000) (hb : base ≤ w.heap.size)
  (h : ∀ A c w', w'.ownsRow base 58 7 (.slice A (qs.length + 1) c) (qs.length + 1) (y0h (qs ++ [(D, r)])) → Keeps (fun b => v.ownBlock = some b) w w' → (∀ b, (Value.slice A (qs.length + 1) c).ownBlock = some b → v.ownBlock = some b ∨ w.heap.size ≤ b) → wpList Try.prog ops Q rest (a.put o.dst (.slice A (qs.length + 1) c)) w') :
  wpList Try.prog ops Q (o :: rest) a (w.alloc (.cells #[.int .i64 r.type, .int .i64 r.len, .int .i64 r.how, .int .i64 r.lo, .int .i64 r.hi, D, .bool r.need] 58)) := by
 obtain ⟨i0, hi0, hz0, hz1, hz2⟩ := info_parts y5s
 obtain ⟨wb, hwb⟩ : ∃ wb, wb = w.alloc (.cells (y0h [(D, r)]).toArray 58) := ⟨_, rfl⟩
 have hwb' : w.alloc (.cells #[.int .i64 r.type, .int .i64 r.len, .int .i64 r.how, .int .i64 r.lo, .int .i64 r.hi, D, .bool r.need] 58) = wb := hwb.symm
 rw [hwb']
 have hkb : Keeps y02 w wb := by rw [hwb]; exact (Keeps.refl _ w).alloc _
 have hbb : Blk wb w.heap.size 58 (y0h [(D, r)]).toArray := by rw [hwb]; exact Blk.new w _ _
 have hrb : Row wb (fun b => b = w.heap.size) 7 (.slice (some ⟨w.heap.size, 0, none⟩) 1 1) 1 (y0h [(D, r)]) := by
  have h := Row.block (F := fun b => b = w.heap.size) (n := 1) (c := 1) (size := 7) hbb rfl rfl (by unfold maxLen; omega) (Nat.le_refl _)
  exact h
 have hownb : wb.ownsRow base 58 7 v qs.length (y0h qs) := y0f hR hkb (fun _ _ h => h)
 have hone' : ∀ q ∈ ([(D, r)] : List (Value × Pure.Rule)), q.1.oneCell' = true := by
  intro q hq
  simp at hq
  subst hq
  exact hone
 refine y0k hgd s x _ ho base 58 i0 _ 7 72 Try.underlying29 hi0 hz0 hz1 hz2 rfl (by omega) v _ (y0h qs) hs hownb _ _ 1 (y0h [(D, r)]) hx hrb (y5e _ hone') (by unfold maxLen; omega) (by omega) (Nat.le_trans hb hkb.size) ?_
 intro v3 w3 hown3 hg3 hat3
 have hcat : y0h qs ++ y0h [(D, r)] = y0h (qs ++ [(D, r)]) := by simp [y0h]
 rw [hcat] at hown3
 have hkw : Keeps (fun b => v.ownBlock = some b) wb w3 := (Keeps.refl _ wb).grown hg3 (fun k hk _ => hk)
 have hwbs : w.heap.size < wb.heap.size := by rw [hwb]; simp
 obtain ⟨A4, c4, rfl⟩ := y0b hown3
 refine h A4 c4 w3 hown3 ((hkb.mono (fun _ h => h.elim)).trans hkw) (fun b hb => ?_)
 rcases hat3 with e | e
 ·exact .inl (e ▸ hb)
 ·rw [e] at hb; injection hb with hb; exact .inr (by omega)
end
structure RRead (w0 w : World) (F : Nat → Prop) (v : Value) (us : List (Value × Pure.Rule)) : Prop where
 own : w.ownsRow w0.heap.size 58 7 v us.length (y0h us)
 rows : ∀ p ∈ us, Row w (fun b => F b ∧ v.ownBlock ≠ some b ∧ b < w.heap.size) 1 p.1 p.2.want.length (u8s p.2.want)
 kept : Keeps y02 w0 w
theorem RRead.keeps {w0 w w' : World} {F : Nat → Prop} {v : Value} {us : List (Value × Pure.Rule)} (h : RRead w0 w F v us) (k : Keeps y02 w w') : RRead w0 w' F v us :=
 ⟨y0f h.own k (fun _ _ h => h), fun p hp => ((h.rows p hp).keeps k (fun _ _ h => h)).mono (fun _ hb => ⟨hb.1, hb.2.1, Nat.lt_of_lt_of_le hb.2.2 k.size⟩), h.kept.trans k⟩
theorem RRead.row {w0 w : World} {F : Nat → Prop} {v : Value} {us : List (Value × Pure.Rule)} (h : RRead w0 w F v us) : RRow w (fun b => (F b ∨ w0.heap.size ≤ b) ∧ b < w.heap.size) v us :=
 ⟨(Row.of_own h.own).mono (fun b hb => ⟨.inr (y0c h.own b hb), y0i h.own b hb⟩), fun p hp => (h.rows p hp).mono (fun _ hb => ⟨.inl hb.1, hb.2.2⟩)⟩
theorem RRead.more {w0 w w' : World} {F : Nat → Prop} {v v' D : Value} {us : List (Value × Pure.Rule)} {r : Pure.Rule} (h : RRead w0 w F v us) (hd : Row w (fun b => F b ∧ v.ownBlock ≠ some b ∧ b < w.heap.size) 1 D r.want.length (u8s r.want))
  (ho : w'.ownsRow w0.heap.size 58 7 v' (us.length + 1) (y0h (us ++ [(D, r)]))) (k : Keeps (fun b => v.ownBlock = some b) w w') (hb : ∀ b, v'.ownBlock = some b → v.ownBlock = some b ∨ w.heap.size ≤ b) : RRead w0 w' F v' (us ++ [(D, r)]) := by
 refine ⟨by rw [List.length_append]; exact ho, fun p hp => ?_, h.kept.trans' k (fun i hi hl => by have := y0c h.own i hi; omega)⟩
 have hrow : Row w (fun b => F b ∧ v.ownBlock ≠ some b ∧ b < w.heap.size) 1 p.1 p.2.want.length (u8s p.2.want) := by
  rcases List.mem_append.1 hp with hp | hp
  ·exact h.rows p hp
  ·simp at hp
   subst hp
   exact hd
 refine (hrow.keeps k (fun b hb => hb.2.1)).mono (fun b hx => ⟨hx.1, fun e => ?_, Nat.lt_of_lt_of_le hx.2.2 k.size⟩)
 rcases hb b e with e | e
 ·exact hx.2.1 e
 ·omega
theorem made_rules (w : World) (n : Nat) (hn : n ≤ 1000000) (F : Nat → Prop) : ∃ cs, (Instr.makeSlice 29 (.int .i64 0) (.int .i64 (n : Int))).run Try.prog w = .ok (.slice (some ⟨w.heap.size, 0, none⟩) 0 n) (w.alloc (.cells cs 58)) ∧
  RRead w (w.alloc (.cells cs 58)) F (.slice (some ⟨w.heap.size, 0, none⟩) 0 n) [] := by
 obtain ⟨i0, hi0, hz0, hz1, hz2⟩ := info_parts y5s
 have hrun := run_make (P := Try.prog) w 29 58 i0 _ Try.underlying29 hi0 hz0 .i64 .i64 0 n (by omega) (by omega) (by rw [hz2]; omega) (by omega)
 rw [hz1, Int.toNat_natCast, show Int.toNat 0 = 0 from rfl] at hrun
 refine ⟨_, hrun, ⟨⟨by simp, .inr ⟨w.heap.size, n, _, rfl, Nat.le_refl _, Blk.new w _ _, by simp, by unfold maxLen; omega, by simp [madeCells], by simp⟩⟩, by simp, (Keeps.refl _ w).alloc _⟩⟩
theorem y39 (F : Nat → Prop) (x : Value) (us : List (Value × Pure.Rule)) (w : World) (hx : RRow w F x us) (hfu : FewRules us) :
  Calls Try.prog 41 #[x] w fun e w' => ∃ u, ∃ qs : List (Value × Pure.Rule), e = .returned u ∧ y06 qs = y06 us ∧ RRead w w' (fun b => w.heap.size ≤ b) u qs := by
 obtain ⟨X, cx, rfl, _⟩ := hx.form
 have hm := hx.out.2.1
 unfold maxLen at hm
 have HX := xhd hx
 have HFU := xhd hfu
 have hul := hfu.len
 clear hx hfu
 obtain ⟨cs, hrun, hrd0⟩ := made_rules w us.length (by omega) (fun b => w.heap.size ≤ b)
 obtain ⟨w1, hw1⟩ : ∃ w1, w1 = w.alloc (.cells cs 58) := ⟨_, rfl⟩
 rw [← hw1] at hrun hrd0
 have HRD0 := xhd hrd0
 clear hrd0 hw1
 go_enter Try.func41, Try.ntmps41
 go_wp2_with fail
 go_loopw [3, 11] (fun v i wr => ∃ k : Nat, k ≤ us.length ∧ i = .int .i64 (k : Int) ∧ ∃ qs : List (Value × Pure.Rule), y06 qs = (y06 us).take k ∧ qs.length = k ∧ RRead w wr (fun b => w.heap.size ≤ b) v qs) (fun _ i _ => us.length - (intOf i).toNat)
 case atStart => exact ⟨0, by omega, rfl, [], rfl, rfl, HRD0.out⟩
 case round =>
  clear hrun HRD0
  obtain ⟨k, hk, rfl, qs, hqs, rfl, hrd⟩ := hrel
  obtain ⟨A2, c2, rfl⟩ := y0b hrd.own
  have HQS := xhd hqs
  have HRD := xhd hrd
  clear hqs hrd
  by_cases hkl : qs.length < us.length
  ·have i0' : (0 : Int) ≤ (qs.length : Int) := by omega
   have i1 : (qs.length : Int) < (us.length : Int) := by omega
   have d1 : decide ((qs.length : Int) < (us.length : Int)) = true := decide_eq_true (by omega)
   have d2 : decide (qs.length < us.length) = true := decide_eq_true hkl
   obtain ⟨bx, ox, pA, pc, pr, rfl, hFb, hcell, hwant, hpa⟩ := (HX.out.keeps HRD.out.kept (fun _ _ h => h)).pick qs.length hkl
   have hwl : pr.want.length ≤ 100000 := (HFU.out.ok _ (List.mem_of_getElem? hpa)).2
   have HTK := xhd (show (y06 us).take (qs.length + 1) = (y06 us).take qs.length ++ [pr] from Pure.take_snoc _ qs.length _ (by rw [List.getElem?_map, hpa]; rfl))
   have HRW := xhd hwant
   have x0 : wr.cell? ⟨bx, ox + qs.length * 7, none⟩ = some (.int .i64 pr.type) := hcell 0 _ rfl
   have x1 := hcell 1 _ rfl
   have x2 := hcell 2 _ rfl
   have x3 := hcell 3 _ rfl
   have x4 := hcell 4 _ rfl
   have x5 := hcell 5 _ rfl
   have x6 := hcell 6 _ rfl
   clear hcell hwant hpa
   go_upto_region 5 with fail
   obtain ⟨w3, hw3⟩ : ∃ w3, w3 = wr.alloc (.cells (y04 (.slice pA pr.want.length pc, pr)).toArray 58) := ⟨_, rfl⟩
   obtain ⟨gr, hgr⟩ : ∃ gr, gr = wr.heap.size := ⟨_, rfl⟩
   rw [show wr.alloc (.cells #[.int .i64 pr.type, .int .i64 pr.len, .int .i64 pr.how, .int .i64 pr.lo, .int .i64 pr.hi, .slice pA pr.want.length pc, .bool pr.need] 58) = w3 from hw3.symm, ← hgr]
   have hk3 : Keeps y02 wr w3 := by rw [hw3]; exact (Keeps.refl _ wr).alloc _
   have hb3 : Blk w3 gr 58 (y04 (.slice pA pr.want.length pc, pr)).toArray := by rw [hw3, hgr]; exact Blk.new wr _ _
   have hsz3 : w3.heap.size = gr + 1 := by rw [hw3, hgr]; simp
   have y5 : w3.cell? ⟨gr, 5, none⟩ = some (.slice pA pr.want.length pc) := by rw [hb3.cell]; rfl
   have HBC := xhd (y19 F (.slice pA pr.want.length pc) _ pr.want w3 (HRW.out.keeps hk3 (fun _ _ h => h)) (by omega))
   have HB3 := xhd hb3
   have HK3 := xhd hk3
   have HGR := xhd hgr
   have HS3 := xhd hsz3
   clear hw3 hgr hk3 hb3 x0 x1 x2 x3 x4 x5 x6 hsz3
   go_wp2_with fail
   refine HBC.out.mono ?_
   rintro e w4 ⟨u4, rfl, hu4, hbl4⟩
   obtain ⟨A4, c4, rfl⟩ := y0b hu4
   have hk4 : Keeps y02 w3 w4 := Keeps.new hbl4
   have hb4 := HB3.out.keeps hk4 (fun h => h)
   have z5 : w4.cell? ⟨gr, 5, none⟩ = some (.slice pA pr.want.length pc) := by rw [hb4.cell]; rfl
   have f5 := hb4.frozen 5
   have hrow4 := (Row.of_own hu4).mono (G := fun b => w3.heap.size ≤ b) (fun b hb => y0c hu4 b hb)
   have HB5 := xhd (show Blk (w4.setCell ⟨gr, 5, none⟩ (.slice A4 pr.want.length c4)) gr 58 (y04 (.slice A4 pr.want.length c4, pr)).toArray from hb4.set 5 _)
   have KR := (Keeps.refl (only gr) w4).put 5 (.slice A4 pr.want.length c4)
   have HROW5 := xhd (hrow4.keeps KR (fun b hb e => by have e : b = gr := e; have := HS3.out; omega))
   have HK5 := xhd (show Keeps y02 wr (w4.setCell ⟨gr, 5, none⟩ (.slice A4 pr.want.length c4)) from (HK3.out.trans hk4).trans' KR (fun i hi hl => by have e : i = gr := hi; have := HGR.out; omega))
   clear hu4 hbl4 hk4 hb4 hrow4 KR HBC y5
   go_upto_region 6 with fail
   generalize hw5 : w4.setCell ⟨gr, 5, none⟩ (.slice A4 pr.want.length c4) = w5 at HB5 HROW5 HK5 ⊢
   have b0 : w5.cell? ⟨gr, 0, none⟩ = some (.int .i64 pr.type) := by rw [HB5.out.cell]; rfl
   have b1 : w5.cell? ⟨gr, 1, none⟩ = some (.int .i64 pr.len) := by rw [HB5.out.cell]; rfl
   have b2 : w5.cell? ⟨gr, 2, none⟩ = some (.int .i64 pr.how) := by rw [HB5.out.cell]; rfl
   have b3 : w5.cell? ⟨gr, 3, none⟩ = some (.int .i64 pr.lo) := by rw [HB5.out.cell]; rfl
   have b4 : w5.cell? ⟨gr, 4, none⟩ = some (.int .i64 pr.hi) := by rw [HB5.out.cell]; rfl
   have b5 : w5.cell? ⟨gr, 5, none⟩ = some (.slice A4 pr.want.length c4) := by rw [HB5.out.cell]; rfl
   have b6 : w5.cell? ⟨gr, 6, none⟩ = some (.bool pr.need) := by rw [HB5.out.cell]; rfl
   have HR5 := xhd (HRD.out.keeps HK5.out)
   have HD5 := xhd ((HROW5.out.strongN (by omega)).mono (G := fun b => w.heap.size ≤ b ∧ (Value.slice A2 qs.length c2).ownBlock ≠ some b ∧ b < w5.heap.size) (fun b hb => by
    have h1 := HRD.out.kept.size
    have h2 := HS3.out
    have h3 := HGR.out
    exact ⟨by have := hb.1; omega, fun e => by have := y0i HRD.out.own b e; have := hb.1; omega, hb.2⟩))
   clear hw5 z5 f5
   go_wp2_with (at_builtin; refine y0j ?_)
   unfold Hid
   refine y2g rfl (.tmp 19) (.tmp 21) rfl w.heap.size (.slice A2 qs.length c2) qs (.slice A4 pr.want.length c4) pr rfl rfl rfl HR5.out.own (by omega) HR5.out.kept.size ?_
   intro A6 c6 w6 hown6 hk6 hob6
   have HR6 := xhd (HR5.out.more HD5.out hown6 hk6 hob6)
   clear hown6 hk6 hob6 b0 b1 b2 b3 b4 b5 b6
   go_wp2_with fail
   go_roundw
   case rel => exact ⟨qs.length + 1, by omega, by go_num, qs ++ [(.slice A4 pr.want.length c4, pr)], by rw [HTK.out, ← HQS.out]; simp [y06], by simp, HR6.out⟩
   case measure => simp [intOf] <;> omega
  ·have hkk : qs.length = us.length := by omega
   have d1 : decide ((qs.length : Int) < (us.length : Int)) = false := decide_eq_false (by omega)
   have d2 : decide (qs.length < us.length) = false := decide_eq_false (by omega)
   have HE := xhd (show y06 qs = y06 us by rw [HQS.out]; exact List.take_of_length_le (by simp; omega))
   go_wp2
   go_ret
   exact ⟨_, qs, rfl, HE.out, HRD.out⟩
end Go.Proofs.Ytgphfindolaljaa
