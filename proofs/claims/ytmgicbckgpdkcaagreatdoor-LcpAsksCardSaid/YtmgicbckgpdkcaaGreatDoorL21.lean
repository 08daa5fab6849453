/- Package lcp: a link as it lies; negotiator, made, State, opened, Dropped, Mine, Peer, down. -/
import Derived.Deep.MidRow
import Derived.Test.YtmgicbckgpdkcaaGreatDoorL20
import Derived.Test.YtmgicbckgpdkcaaGreatDoorL19
namespace Go.Proofs.YtmgicbckgpdkcaaGreatDoor
set_option maxRecDepth 100000
set_option maxHeartbeats 16000000
open _root_.Go.Lib renaming hid → xhd
open Go.RowKit
abbrev byLink (l : Nat) : Value := .func (.func 68) #[.pointer (some ⟨l, 0, none⟩)] #[]
abbrev y4j (g : Nat) (c : Pure.Cfg) (nm sc : ByteArray) (rv : Value) : List Value := .pointer (some ⟨g, 0, none⟩) :: (y07 c nm sc ++ [rv])
def LBlk (w : World) (l g : Nat) (c : Pure.Cfg) (nm sc : ByteArray) (rv : Value) : Prop := Blk w l 125 (y4j g c nm sc rv).toArray
theorem LBlk.cell {w : World} {l g : Nat} {c : Pure.Cfg} {nm sc : ByteArray} {rv : Value} (h : LBlk w l g c nm sc rv) (j : Nat) : w.cell? ⟨l, j, none⟩ = (y4j g c nm sc rv)[j]? := by
 have : Blk w l 125 (y4j g c nm sc rv).toArray := h
 rw [this.cell, List.getElem?_toArray]
theorem LBlk.keeps {S : Nat → Prop} {w w' : World} {l g : Nat} {c : Pure.Cfg} {nm sc : ByteArray} {rv : Value} (h : LBlk w l g c nm sc rv) (k : Keeps S w w') (hs : ¬ S l) : LBlk w' l g c nm sc rv := Blk.keeps h k hs
theorem LBlk.lt {w : World} {l g : Nat} {c : Pure.Cfg} {nm sc : ByteArray} {rv : Value} (h : LBlk w l g c nm sc rv) : l < w.heap.size := Blk.lt h
theorem y7e (v : Value) (w : World) : (binOp .neq 129 (.func (.func 68) #[v] #[]) .nilFunc).run Tryz.prog w = .ok (.bool true) w := by kernel_rfl
structure LF where
 l : Nat
 g : Nat
 gm : Nat
 nm : ByteArray
 sc : ByteArray
 rv : Value
structure LObj (w : World) (k : LF) (R : Nat → Prop) (f : NF) (x : Pure.Lcp) : Prop where
 blk : LBlk w k.l k.g x.c k.nm k.sc k.rv
 obj : NObj w k.g R f x.n
 gm : f.gm = ⟨k.gm, byLink k.l⟩
 rules : ∃ us, RRow w R k.rv us ∧ y0e us = x.n.rules ∧ FewRules us
 same : x.n.rules = x.c.rules
 fine : x.c.fine = true
 accm : x.c.accm < 4294967296
 nl : ¬ R k.l
 lg : k.l ≠ k.g
 lm : k.l ≠ k.gm
theorem LObj.gm' {w : World} {k : LF} {R : Nat → Prop} {f : NF} {x : Pure.Lcp} (h : LObj w k R f x) : f.gm.m = k.gm := by rw [h.gm]
theorem LObj.keeps {w w' : World} {k : LF} {R S : Nat → Prop} {f : NF} {x : Pure.Lcp} (h : LObj w k R f x) (K : Keeps S w w') (hl : ¬ S k.l) (hg : ¬ S k.g) (hm : ¬ S k.gm) (hs : ∀ b, R b → ¬ S b) : LObj w' k R f x := by
 obtain ⟨us, r1, r2, r3⟩ := h.rules
 exact ⟨h.blk.keeps K hl, h.obj.keeps K hg (by rw [h.gm']; exact hm) hs, h.gm, ⟨us, r1.keeps K hs, r2, r3⟩, h.same, h.fine, h.accm, h.nl, h.lg, h.lm⟩
theorem LObj.quiet {w w' : World} {k : LF} {R : Nat → Prop} {f : NF} {x : Pure.Lcp} (h : LObj w k R f x) (K : Keeps y01 w w') : LObj w' k R f x := h.keeps K (fun e => e) (fun e => e) (fun e => e) (fun _ _ e => e)
def y2a (w w' : World) (k : LF) (R : Nat → Prop) (x : Pure.Lcp) : Prop :=
 ∃ f' R', LObj w' k R' f' x ∧ (∀ b, R' b → R b ∨ w.heap.size ≤ b) ∧ Keeps (fun b => b = k.g ∨ b = k.gm) w w'
theorem LObj.turned {w w' : World} {k : LF} {R : Nat → Prop} {f : NF} {x : Pure.Lcp} {n' : Pure.Neg} (h : LObj w k R f x) (hr : n'.rules = x.n.rules) (hb : y17 w w' k.g R f n') : y2a w w' k R { x with n := n' } := by
 obtain ⟨f', R', hn, hgm, hsub, K⟩ := hb
 obtain ⟨us, r1, r2, r3⟩ := h.rules
 have hll := h.blk.lt
 have K2 : Keeps (fun b => b = k.g ∨ b = k.gm) w w' := by rw [h.gm'] at K; exact K
 have hS : ∀ b, R b → ¬ (b = k.g ∨ b = k.gm) := fun b hb e => by
  rcases e with e | e
  ·exact h.obj.ng (e ▸ hb)
  ·exact h.obj.nm (by rw [h.gm', ← e]; exact hb)
 refine ⟨f', fun b => (R' b ∨ R b) ∧ b < w'.heap.size, ⟨h.blk.keeps K2 (fun e => e.elim h.lg h.lm), ?_, hgm.trans h.gm, ⟨us, (r1.keeps K2 hS).mono (fun b hb => ⟨.inr hb, Nat.lt_of_lt_of_le (h.obj.lt b hb) K.size⟩), by rw [r2]; exact hr.symm, r3⟩, hr.trans h.same, h.fine, h.accm, ?_, h.lg, h.lm⟩, ?_, K2⟩
 ·obtain ⟨vs, s1, s2, s3⟩ := hn.rules
  have hsub2 : ∀ b, R' b → (R' b ∨ R b) ∧ b < w'.heap.size := fun b hb => ⟨.inl hb, hn.lt b hb⟩
  refine ⟨hn.blk, hn.mach, hn.well, hn.e1, hn.e2, hn.e3, hn.e4, hn.e5, hn.e6, ⟨vs, s1.mono hsub2, s2, s3⟩, hn.first.mono hsub2, hn.request.mono hsub2, hn.aopts.mono hsub2, hn.mine.mono hsub2, hn.given.mono hsub2, fun b hb => hb.2, ?_, ?_, hn.ne⟩
  ·rintro ⟨e | e, _⟩
   ·exact hn.ng e
   ·exact h.obj.ng e
  ·rintro ⟨e | e, _⟩
   ·exact hn.nm e
   ·rw [hgm] at e; exact h.obj.nm e
 ·rintro ⟨e | e, _⟩
  ·rcases hsub _ e with e | e
   ·exact h.nl e
   ·omega
  ·exact h.nl e
 ·rintro b ⟨e | e, _⟩
  ·exact hsub b e
  ·exact .inl e
theorem LObj.stays {w w' : World} {k : LF} {R : Nat → Prop} {f : NF} {x : Pure.Lcp} (h : LObj w k R f x) (K : Keeps y01 w w') : y2a w w' k R x :=
 ⟨f, R, h.quiet K, fun _ hb => .inl hb, K.mono (fun _ e => e.elim)⟩
section
variable {w : World} {k : LF} {R : Nat → Prop} {f : NF} {x : Pure.Lcp}
theorem y2v (h : LObj w k R f x) : Calls Tryz.prog 70 #[.pointer (some ⟨k.l, 0, none⟩)] w fun e w' => e = .returned (.pointer (some ⟨k.g, 0, none⟩)) ∧ w = w' := by
 have c0 : w.cell? ⟨k.l, 0, none⟩ = some (.pointer (some ⟨k.g, 0, none⟩)) := h.blk.cell 0
 clear h
 go_enter Tryz.func70, Tryz.ntmps70
 go_wp2_with fail
 go_ret
 exact ⟨rfl, rfl⟩
theorem lstate_any (h : LObj w k R f x) : Calls Tryz.prog 40 #[.pointer (some ⟨k.l, 0, none⟩)] w fun e w' => e = .returned (.int .i64 (x.n.m.state : Nat)) ∧ w = w' := by
 have HN := xhd (y2v h)
 have HS := xhd (nstate_any k.g R f x.n w h.obj)
 clear h
 go_enter Tryz.func40, Tryz.ntmps40
 go_wp2_with fail
 refine HN.out.mono ?_
 rintro e w1 ⟨rfl, rfl⟩
 go_wp2_with fail
 refine HS.out.mono ?_
 rintro e w1 ⟨rfl, rfl⟩
 go_wp2_with fail
 go_ret
 exact ⟨rfl, rfl⟩
end
namespace Pure
def Lcp.verdict (x : Lcp) (l : List Opt) (rejects : Bool) : Nat × List Opt :=
 if (readVals (split x.n.ours).2).magic = 0 ∨ (readVals l).magic ≠ (readVals (split x.n.ours).2).magic then judge x.n.rules l rejects else looped x.n.rules l rejects (readVals (split x.n.ours).2).magic
end Pure
namespace Pure
theorem y41 (n : Neg) (e : Nat) (r : Option Reply) : (n.event e r).1.rules = n.rules := (acts_keeps r _ ({ n with m := (n.m.act2 e).2 }, mute)).rules
theorem act_rules (n : Neg) (e : Int) : (n.act e).1.rules = n.rules := by
 unfold Neg.act
 split
 ·rfl
 split
 ·exact y41 n.again 0 none
 ·exact y41 n e.toNat none
end Pure
theorem lout_info : (Tryz.prog.info? 61).map (·.size) = some 6 := by kernel_rfl
def LOuts (w w' : World) (v : Value) (o : Pure.LSaid) : Prop :=
 ∃ sv, ∃ ps : List (Value × Pure.Pkt), v = .agg #[sv, .bool o.said.up, .bool o.said.down, .bool o.said.start, .bool o.said.done, .int .i64 (o.reject : Int)] ∧ PRow w' (fun b => w.heap.size ≤ b ∧ b < w'.heap.size) sv ps ∧ ps.map Prod.snd = o.said.send ∧ ps.length ≤ 100
abbrev lzero : List Value := [.slice none 0 0, .bool false, .bool false, .bool false, .bool false, .int .i64 0]
section
variable {w : World} {k : LF} {R : Nat → Prop} {f : NF} {x : Pure.Lcp}
theorem ldo_any (h : LObj w k R f x) (e : Int) (he : e = 0 ∨ e = 1 ∨ e = 2 ∨ e = 3) (hnk : x.n.naks ≤ 1000) :
  Calls Tryz.prog 28 #[.pointer (some ⟨k.l, 0, none⟩), .int .i64 e] w fun r w' => ∃ v, r = .returned v ∧ LOuts w w' v (x.act e).2 ∧ y2a w w' k R (x.act e).1 := by
 have HI := xhd lout_info
 obtain ⟨ro, hro⟩ : ∃ q, q = w.heap.size := ⟨_, rfl⟩
 obtain ⟨w1, hw1⟩ : ∃ q, q = w.alloc (.cells lzero.toArray 61) := ⟨_, rfl⟩
 have hk1 : Keeps y01 w w1 := by rw [hw1]; exact (Keeps.refl _ w).alloc _
 have HO := xhd (show Blk w1 ro 61 lzero.toArray by rw [hw1, hro]; exact Blk.new w _ _)
 have h1 := h.quiet hk1
 have HN := xhd (y2v h1)
 have hgl := h.obj.blk.lt
 have hml := Blk.lt h.obj.mach
 have HRG := xhd (show ro ≠ k.g by omega)
 have HRM := xhd (show ro ≠ f.gm by omega)
 have HNR := xhd (show ¬ R ro from fun e => by have := h.obj.lt ro e; omega)
 have HRL := xhd (show ro < w1.heap.size from HO.out.lt)
 have HR0 := xhd (show w.heap.size ≤ ro by omega)
 have HH := xhd h
 have HK1 := xhd hk1
 have HCALL := xhd (show Calls Tryz.prog 71 #[.pointer (some ⟨k.g, 0, none⟩), .int .i64 e] w1 fun r w' => ∃ v, r = .returned v ∧ Outs w1 w' v (x.n.act e).2 ∧ y17 w1 w' k.g R f (x.n.act e).1 from by
  rcases he with rfl | he
  ·exact do_up k.g R f x.n w1 h1.obj
  ·exact do_other k.g R f x.n e he w1 h1.obj hnk)
 clear he hnk
 clear h hk1 h1 hgl hml
 go_enter Tryz.func28, Tryz.ntmps28
 go_upto_region 1 with fail
 rw [← hro]
 rw [show w.alloc (.cells #[.slice none 0 0, .bool false, .bool false, .bool false, .bool false, .int .i64 0] 61) = w1 from hw1.symm]
 clear hw1 hro
 go_wp2_with fail
 refine HN.out.mono ?_
 rintro e' w2 ⟨rfl, rfl⟩
 go_wp2_with fail
 refine HCALL.out.mono ?_
 rintro e' w5 ⟨v, rfl, hout, hbec⟩
 clear HCALL HN
 have hRo : Blk w5 ro 61 lzero.toArray := by
  obtain ⟨_, _, _, _, _, hk⟩ := hbec
  exact HO.out.keeps hk (fun e => by rcases e with e | e; exact HRG.out e; exact HRM.out e)
 have hfar := fun w'' (K : Keeps (only ro) w5 w'') => (hout.far K HRL.out).since HK1.out.size
 have hcl := fun w'' (K : Keeps (only ro) w5 w'') => hbec.close (f := f) rfl (fun b hb => .inl hb) (HK1.out.mono (fun _ e => e.elim)) K HR0.out HRL.out (fun e => HRG.out e.symm) (fun e => HRM.out e.symm) HNR.out
 obtain ⟨sv, ps, rfl, hprow, hpk, hfw⟩ := hout
 obtain ⟨A6, c6, rfl, _⟩ := hprow.form
 have z0 : w5.cell? ⟨ro, 0, none⟩ = some (.slice none 0 0) := by rw [hRo.cell]; rfl
 have f0 := hRo.frozen 0
 have z1 : w5.cell? ⟨ro, 1, none⟩ = some (.bool false) := by rw [hRo.cell]; rfl
 have f1 := hRo.frozen 1
 have z2 : w5.cell? ⟨ro, 2, none⟩ = some (.bool false) := by rw [hRo.cell]; rfl
 have f2 := hRo.frozen 2
 have z3 : w5.cell? ⟨ro, 3, none⟩ = some (.bool false) := by rw [hRo.cell]; rfl
 have f3 := hRo.frozen 3
 have z4 : w5.cell? ⟨ro, 4, none⟩ = some (.bool false) := by rw [hRo.cell]; rfl
 have f4 := hRo.frozen 4
 have z5 : w5.cell? ⟨ro, 5, none⟩ = some (.int .i64 0) := by rw [hRo.cell]; rfl
 have f5 := hRo.frozen 5
 obtain ⟨O1, hO1⟩ : ∃ b, b = ((x.n.act e).2).up := ⟨_, rfl⟩
 obtain ⟨O2, hO2⟩ : ∃ b, b = ((x.n.act e).2).down := ⟨_, rfl⟩
 obtain ⟨O3, hO3⟩ : ∃ b, b = ((x.n.act e).2).start := ⟨_, rfl⟩
 obtain ⟨O4, hO4⟩ : ∃ b, b = ((x.n.act e).2).done := ⟨_, rfl⟩
 rw [← hO1, ← hO2, ← hO3, ← hO4] at hfar ⊢
 have HZ := xhd ((((((hRo.set 0 (.slice A6 ps.length c6)).set 1 (.bool O1)).set 2 (.bool O2)).set 3 (.bool O3)).set 4 (.bool O4)).set 5 (.int .i64 0))
 have KR := (((((((Keeps.refl (only ro) w5).put 0 (.slice A6 ps.length c6)).put 1 (.bool O1)).put 2 (.bool O2)).put 3 (.bool O3)).put 4 (.bool O4)).put 5 (.int .i64 0))
 have HFAR := xhd (hfar _ KR)
 have HCL := xhd (HH.out.turned (Pure.act_rules x.n e) (hcl _ KR))
 have HO1 := xhd hO1
 have HO2 := xhd hO2
 have HO3 := xhd hO3
 have HO4 := xhd hO4
 clear hRo hfar hcl hprow hpk hfw KR hO1 hO2 hO3 hO4 hbec
 go_wp2_with fail
 refine bodyPost_ret (y0b rfl _ _ ro 61 _ (0, 0) _ rfl HZ.out Tryz.underlying61 rfl (by rw [HI.out]; rfl)) rfl ?_
 obtain ⟨sv', ps', e', hp', hs', hf'⟩ := HFAR.out
 injection e' with e'
 have e0 : sv' = .slice A6 ps.length c6 := by
  have := congrArg (fun a => a[0]?) e'
  simpa using this.symm
 subst e0
 refine ⟨_, rfl, ⟨_, ps', ?_, hp', hs', hf'⟩, HCL.out⟩
 show Value.agg _ = Value.agg #[_, .bool ((x.n.act e).2).up, .bool ((x.n.act e).2).down, .bool ((x.n.act e).2).start, .bool ((x.n.act e).2).done, .int .i64 0]
 rw [← HO1.out, ← HO2.out, ← HO3.out, ← HO4.out]
 rfl
end
theorem y9v (c : Pure.Cfg) : c.rules.length ≤ 1000 := by
 unfold Pure.Cfg.rules
 cases c.server <;> cases c.pfc <;> cases c.acfc <;> by_cases h : c.mrru = 0 <;> simp [h]
section
variable {w : World} {k : LF} {R : Nat → Prop} {f : NF} {x : Pure.Lcp}
end
theorem y2a.close {w0 W w' w'' : World} {k : LF} {R : Nat → Prop} {x : Pure.Lcp} {ro : Nat} (hB : y2a W w' k R x) (k0 : Keeps y01 w0 W) (K : Keeps (only ro) w' w'') (h0 : w0.heap.size ≤ ro) (hW : ro < W.heap.size) (hl : ro ≠ k.l) (hg : ro ≠ k.g) (hm : ro ≠ k.gm) (hR : ¬ R ro) : y2a w0 w'' k R x := by
 obtain ⟨f', R', h1, h2, h3⟩ := hB
 refine ⟨f', R', h1.keeps K (fun e => hl (by have e : k.l = ro := e; exact e.symm)) (fun e => hg (by have e : k.g = ro := e; exact e.symm)) (fun e => hm (by have e : k.gm = ro := e; exact e.symm)) (fun b hb e => ?_), fun b hb => ?_, ?_⟩
 ·have e : b = ro := e
  subst e
  rcases h2 _ hb with h | h
  ·exact hR h
  ·omega
 ·rcases h2 b hb with h | h
  ·exact .inl h
  ·exact .inr (Nat.le_trans k0.size h)
 ·exact ((k0.mono (fun _ e => e.elim)).trans h3).trans' K (fun i hi hl => by have e : i = ro := hi; omega)
theorem LOuts.close {w0 W w' w'' : World} {v : Value} {o : Pure.LSaid} {ro : Nat} (h : LOuts W w' v o) (K : Keeps (only ro) w' w'') (hs : w0.heap.size ≤ W.heap.size) (hW : ro < W.heap.size) : LOuts w0 w'' v o := by
 obtain ⟨sv, ps, h1, h2, h3, h4⟩ := h
 exact ⟨sv, ps, h1, (h2.keeps K (fun b hb e => by have e : b = ro := e; have := hb.1; omega)).mono (fun b hb => ⟨Nat.le_trans hs hb.1, Nat.lt_of_lt_of_le hb.2 K.size⟩), h3, h4⟩
section
variable {w : World} {k : LF} {R : Nat → Prop} {f : NF} {x : Pure.Lcp}
end
theorem lwithin_as (c : Pure.Cfg) (nm sc : ByteArray) (b1 b2 b3 b4 b5 b6 z1 z2 z3 : Bool) (h1 : (decide (64 ≤ c.mru) && decide (c.mru ≤ 1500)) = b1) (h2 : (decide (64 ≤ c.mrru) && decide (c.mrru ≤ 1500)) = b2) (h3 : (decide (c.bits = 40) || decide (c.bits = 56) || decide (c.bits = 128)) = b3) (h4 : (decide (1 ≤ c.timeout) && decide (c.timeout ≤ 1000)) = b4) (h5 : (decide (1 ≤ c.tries) && decide (c.tries ≤ 1000)) = b5) (h6 : (decide (16 ≤ c.fragment) && decide (c.fragment ≤ 1500)) = b6) (q1 : (c.mrru == 0) = z1) (q2 : (c.bits == 0) = z2) (q3 : (c.fragment == 0) = z3) (w : World) :
  Calls Tryz.prog 54 #[cfgV c nm sc] w fun e w' => e = .returned (.bool (b1 && (z1 || b2) && (z2 || b3) && b4 && b5 && (z3 || b6))) ∧ Keeps y01 w w' := by
 obtain ⟨cb, hcb⟩ : ∃ q, q = w.heap.size := ⟨_, rfl⟩
 obtain ⟨w1, hw1⟩ : ∃ q, q = w.alloc (.cells (y07 c nm sc).toArray 25) := ⟨_, rfl⟩
 have HK := xhd (show Keeps y01 w w1 by rw [hw1]; exact (Keeps.refl _ w).alloc _)
 have hC : Blk w1 cb 25 (y07 c nm sc).toArray := by rw [hw1, hcb]; exact Blk.new w _ _
 have c3 : w1.cell? ⟨cb, 3, none⟩ = some (.int .i64 c.mru) := by rw [hC.cell]; rfl
 have c7 : w1.cell? ⟨cb, 7, none⟩ = some (.int .i64 c.mrru) := by rw [hC.cell]; rfl
 have c9 : w1.cell? ⟨cb, 9, none⟩ = some (.int .i64 c.bits) := by rw [hC.cell]; rfl
 have c15 : w1.cell? ⟨cb, 15, none⟩ = some (.int .i64 c.timeout) := by rw [hC.cell]; rfl
 have c16 : w1.cell? ⟨cb, 16, none⟩ = some (.int .i64 c.tries) := by rw [hC.cell]; rfl
 have c17 : w1.cell? ⟨cb, 17, none⟩ = some (.int .i64 c.fragment) := by rw [hC.cell]; rfl
 have H1 := xhd (y21 c.mru 64 1500 w1)
 have H2 := xhd (y21 c.mrru 64 1500 w1)
 have H3 := xhd (y65 c.bits w1)
 have H4 := xhd (y21 c.timeout 1 1000 w1)
 have H5 := xhd (y21 c.tries 1 1000 w1)
 have H6 := xhd (y21 c.fragment 16 1500 w1)
 rw [h1] at H1
 rw [h2] at H2
 rw [h3] at H3
 rw [h4] at H4
 rw [h5] at H5
 rw [h6] at H6
 clear hC h1 h2 h3 h4 h5 h6
 go_enter Tryz.func54, Tryz.ntmps54
 go_upto_region 1 with fail
 rw [← hcb, ← hw1]
 clear hcb hw1
 go_wp2_with fail
 refine H1.out.mono ?_
 rintro e w2 ⟨rfl, rfl⟩
 cases b1
 ·go_wp2_with fail
  go_ret
  exact ⟨rfl, HK.out⟩
 ·cases z1
  ·go_wp2_with fail
   refine H2.out.mono ?_
   rintro e w2 ⟨rfl, rfl⟩
   cases b2
   ·go_wp2_with fail
    go_ret
    exact ⟨rfl, HK.out⟩
   ·cases z2
    ·go_wp2_with fail
     refine H3.out.mono ?_
     rintro e w2 ⟨rfl, rfl⟩
     cases b3
     ·go_wp2_with fail
      go_ret
      exact ⟨rfl, HK.out⟩
     ·go_wp2_with fail
      refine H4.out.mono ?_
      rintro e w2 ⟨rfl, rfl⟩
      cases b4
      ·go_wp2_with fail
       go_ret
       exact ⟨rfl, HK.out⟩
      ·go_wp2_with fail
       refine H5.out.mono ?_
       rintro e w2 ⟨rfl, rfl⟩
       cases b5
       ·go_wp2_with fail
        go_ret
        exact ⟨rfl, HK.out⟩
       ·cases z3
        ·go_wp2_with fail
         refine H6.out.mono ?_
         rintro e w2 ⟨rfl, rfl⟩
         cases b6
         ·go_wp2_with fail
          go_ret
          exact ⟨rfl, HK.out⟩
         ·go_wp2_with fail
          go_ret
          exact ⟨rfl, HK.out⟩
        ·go_wp2_with fail
         go_ret
         exact ⟨rfl, HK.out⟩
    ·go_wp2_with fail
     refine H4.out.mono ?_
     rintro e w2 ⟨rfl, rfl⟩
     cases b4
     ·go_wp2_with fail
      go_ret
      exact ⟨rfl, HK.out⟩
     ·go_wp2_with fail
      refine H5.out.mono ?_
      rintro e w2 ⟨rfl, rfl⟩
      cases b5
      ·go_wp2_with fail
       go_ret
       exact ⟨rfl, HK.out⟩
      ·cases z3
       ·go_wp2_with fail
        refine H6.out.mono ?_
        rintro e w2 ⟨rfl, rfl⟩
        cases b6
        ·go_wp2_with fail
         go_ret
         exact ⟨rfl, HK.out⟩
        ·go_wp2_with fail
         go_ret
         exact ⟨rfl, HK.out⟩
       ·go_wp2_with fail
        go_ret
        exact ⟨rfl, HK.out⟩
  ·cases z2
   ·go_wp2_with fail
    refine H3.out.mono ?_
    rintro e w2 ⟨rfl, rfl⟩
    cases b3
    ·go_wp2_with fail
     go_ret
     exact ⟨rfl, HK.out⟩
    ·go_wp2_with fail
     refine H4.out.mono ?_
     rintro e w2 ⟨rfl, rfl⟩
     cases b4
     ·go_wp2_with fail
      go_ret
      exact ⟨rfl, HK.out⟩
     ·go_wp2_with fail
      refine H5.out.mono ?_
      rintro e w2 ⟨rfl, rfl⟩
      cases b5
      ·go_wp2_with fail
       go_ret
       exact ⟨rfl, HK.out⟩
      ·cases z3
       ·go_wp2_with fail
        refine H6.out.mono ?_
        rintro e w2 ⟨rfl, rfl⟩
        cases b6
        ·go_wp2_with fail
         go_ret
         exact ⟨rfl, HK.out⟩
        ·go_wp2_with fail
         go_ret
         exact ⟨rfl, HK.out⟩
       ·go_wp2_with fail
        go_ret
        exact ⟨rfl, HK.out⟩
   ·go_wp2_with fail
    refine H4.out.mono ?_
    rintro e w2 ⟨rfl, rfl⟩
    cases b4
    ·go_wp2_with fail
     go_ret
     exact ⟨rfl, HK.out⟩
    ·go_wp2_with fail
     refine H5.out.mono ?_
     rintro e w2 ⟨rfl, rfl⟩
     cases b5
     ·go_wp2_with fail
      go_ret
      exact ⟨rfl, HK.out⟩
     ·cases z3
      ·go_wp2_with fail
       refine H6.out.mono ?_
       rintro e w2 ⟨rfl, rfl⟩
       cases b6
       ·go_wp2_with fail
        go_ret
        exact ⟨rfl, HK.out⟩
       ·go_wp2_with fail
        go_ret
        exact ⟨rfl, HK.out⟩
      ·go_wp2_with fail
       go_ret
       exact ⟨rfl, HK.out⟩
theorem y66 (c : Pure.Cfg) (nm sc : ByteArray) (z1 z2 z3 : Bool) (q1 : (c.mrru == 0) = z1) (q2 : (c.bits == 0) = z2) (q3 : (c.fragment == 0) = z3) (w : World) :
  Calls Tryz.prog 55 #[cfgV c nm sc] w fun e w' => e = .returned (.bool ((z3 || !z1) && (!(c.must || c.stateless || c.symbol) || !z2))) ∧ Keeps y01 w w' := by
 obtain ⟨cb, hcb⟩ : ∃ q, q = w.heap.size := ⟨_, rfl⟩
 obtain ⟨w1, hw1⟩ : ∃ q, q = w.alloc (.cells (y07 c nm sc).toArray 25) := ⟨_, rfl⟩
 have HK := xhd (show Keeps y01 w w1 by rw [hw1]; exact (Keeps.refl _ w).alloc _)
 have hC : Blk w1 cb 25 (y07 c nm sc).toArray := by rw [hw1, hcb]; exact Blk.new w _ _
 have c7 : w1.cell? ⟨cb, 7, none⟩ = some (.int .i64 c.mrru) := by rw [hC.cell]; rfl
 have c9 : w1.cell? ⟨cb, 9, none⟩ = some (.int .i64 c.bits) := by rw [hC.cell]; rfl
 have c17 : w1.cell? ⟨cb, 17, none⟩ = some (.int .i64 c.fragment) := by rw [hC.cell]; rfl
 have c13 : w1.cell? ⟨cb, 13, none⟩ = some (.bool c.must) := by rw [hC.cell]; rfl
 have c10 : w1.cell? ⟨cb, 10, none⟩ = some (.bool c.stateless) := by rw [hC.cell]; rfl
 have c14 : w1.cell? ⟨cb, 14, none⟩ = some (.bool c.symbol) := by rw [hC.cell]; rfl
 have n1 : (c.mrru != 0) = !z1 := by rw [← q1]; rfl
 have n2 : (c.bits != 0) = !z2 := by rw [← q2]; rfl
 generalize c.must = m1 at *
 generalize c.stateless = m2 at *
 generalize c.symbol = m3 at *
 clear hC q1 q2
 go_enter Tryz.func55, Tryz.ntmps55
 go_upto_region 1 with fail
 rw [← hcb, ← hw1]
 clear hcb hw1
 cases m1 <;> cases m2 <;> cases m3 <;> cases z3 <;> cases z1 <;> cases z2
 all_goals
  go_wp2_with fail
  go_ret
  exact ⟨rfl, HK.out⟩
theorem y77 (c : Pure.Cfg) : c.fine = (((decide (64 ≤ c.mru) && decide (c.mru ≤ 1500)) && ((c.mrru == 0) || (decide (64 ≤ c.mrru) && decide (c.mrru ≤ 1500))) && ((c.bits == 0) || (decide (c.bits = 40) || decide (c.bits = 56) || decide (c.bits = 128))) && (decide (1 ≤ c.timeout) && decide (c.timeout ≤ 1000)) && (decide (1 ≤ c.tries) && decide (c.tries ≤ 1000)) && ((c.fragment == 0) || (decide (16 ≤ c.fragment) && decide (c.fragment ≤ 1500)))) && (((c.fragment == 0) || !(c.mrru == 0)) && (!(c.must || c.stateless || c.symbol) || !(c.bits == 0)))) := by
 unfold Pure.Cfg.fine Pure.inInfo
 generalize (c.must || c.stateless || c.symbol) = m
 rw [Bool.eq_iff_iff]
 cases m
 ·simp only [Bool.and_eq_true, Bool.or_eq_true, decide_eq_true_eq, beq_iff_eq, Bool.not_eq_true', beq_eq_false_iff_ne, Bool.not_false, ne_eq, true_or, or_true, and_true]
  omega
 ·simp only [Bool.and_eq_true, Bool.or_eq_true, decide_eq_true_eq, beq_iff_eq, Bool.not_eq_true', beq_eq_false_iff_ne, Bool.not_true, ne_eq, Bool.false_eq_true, or_false, false_or]
  omega
theorem y1c : (Tryz.prog.info? 25).map (·.size) = some 18 := by kernel_rfl
theorem y6n (l : List UInt8) : (Pure.hash l).1 = (Pure.secret l).1 := by
 by_cases h : (Pure.secret l).1 = 0
 ·rw [Pure.hash_ok h, h]
 ·rw [Pure.hash_bad h]
theorem y50 {P : Program} {ops : Array Oper} {rest : List Oper} {op : Oper} {a : Act} {w : World} {Q : Exit → Act → World → Prop} (hgw : Region.wanted op (yielded ops a.tmps) = true) (ty : TypeId) (x : Operand) (ho : op.op = .load ty x)
  (b o : Nat) (hx : a.eval x = .pointer (some ⟨b, o, none⟩)) (cs : List Value) (V : Value) (hV : V = .agg cs.toArray) (d : TypeDesc) (hc : w.rangeAt b o cs)
  (hu : P.underlying ty = some d) (hd : d.isRow = true) (hi : (P.info? ty).map (·.size) = some cs.length)
  (h : wpList P ops Q rest (a.put op.dst V) w) : wpList P ops Q (op :: rest) a w := by
 subst hV
 exact wpList_step fun K hK => by rw [if_pos hgw]; exact wp_load_mid ty x ho b o hx cs d hc hu hd hi (hK _ _ h)
theorem y4y (c : Pure.Cfg) (nm sc : ByteArray) (hn : nm.data.toList = c.name) (hs : sc.data.toList = c.secret) (hl : c.secret.length ≤ 1000000) (w : World) (E : Env w) :
  Calls Tryz.prog 16 #[cfgV c nm sc] w fun e w' => e = .returned (.int .i64 (c.check : Int)) ∧ Keeps y01 w w' := by
 obtain ⟨cb, hcb⟩ : ∃ q, q = w.heap.size := ⟨_, rfl⟩
 obtain ⟨w1, hw1⟩ : ∃ q, q = w.alloc (.cells (y07 c nm sc).toArray 25) := ⟨_, rfl⟩
 have hk1 : Keeps y01 w w1 := by rw [hw1]; exact (Keeps.refl _ w).alloc _
 have hC : Blk w1 cb 25 (y07 c nm sc).toArray := by rw [hw1, hcb]; exact Blk.new w _ _
 have c1 : w1.cell? ⟨cb, 1, none⟩ = some (.string nm) := by rw [hC.cell]; rfl
 have c2 : w1.cell? ⟨cb, 2, none⟩ = some (.string sc) := by rw [hC.cell]; rfl
 have hsz : nm.size = c.name.length := by rw [← hn]; rfl
 have HA := xhd (hash_any sc c.secret hs hl w1 (E.below hk1.to_below))
 rw [y6n] at HA
 have HC := xhd hC
 have HK := xhd hk1
 obtain ⟨CK, hCK⟩ : ∃ q, q = c.check := ⟨_, rfl⟩
 rw [← hCK]
 have HCK := xhd hCK
 clear hn hs hl hk1 hC hCK E
 go_enter Tryz.func16, Tryz.ntmps16
 go_upto_region 1 with fail
 rw [← hcb, ← hw1]
 clear hcb hw1
 obtain ⟨CV, hCV⟩ : ∃ q, q = cfgV c nm sc := ⟨_, rfl⟩
 rw [← hCV]
 have HCV := xhd hCV
 clear hCV
 by_cases h1 : 64 < c.name.length
 ·have d1 : decide ((64 : Int) < (nm.size : Int)) = true := decide_eq_true (by rw [hsz]; omega)
  have d2 : decide (64 < nm.size) = true := decide_eq_true (by rw [hsz]; exact h1)
  have HE := xhd (show CK = 3 from HCK.out.trans (if_pos h1))
  clear h1 hsz
  go_wp2_with fail
  go_ret
  exact ⟨by rw [HE.out]; rfl, HK.out⟩
 have d1 : decide ((64 : Int) < (nm.size : Int)) = false := decide_eq_false (by rw [hsz]; omega)
 have d2 : decide (64 < nm.size) = false := decide_eq_false (by rw [hsz]; exact h1)
 have H1 := xhd h1
 clear h1 hsz
 go_wp2_with fail
 refine HA.out.mono ?_
 rintro e w2 ⟨v, rfl, hown, hbel⟩
 obtain ⟨A2, c22, rfl⟩ := y04 hown
 have hk2 : Keeps y01 w1 w2 := Keeps.new hbel
 have hC2 := HC.out.keeps hk2 (fun e => e)
 have HK2 := xhd (HK.out.trans hk2)
 have HC2 := xhd hC2
 obtain ⟨kk, hkk⟩ : ∃ q, q = (Pure.secret c.secret).1 := ⟨_, rfl⟩
 rw [← hkk]
 have HKK := xhd hkk
 clear hown hbel hk2 hC2 hkk c1 c2
 by_cases h0 : kk = 0
 case neg =>
  have qn : (((kk : Nat) : Int) != 0) = true := by rw [bne_iff_ne]; omega
  have HE := xhd (show CK = kk from HCK.out.trans ((if_neg H1.out).trans ((if_pos (by rw [← HKK.out]; exact h0)).trans HKK.out.symm)))
  clear h0
  go_wp2_with fail
  go_ret
  exact ⟨by rw [HE.out]; rfl, HK2.out⟩
 case pos =>
  subst h0
  have HE := xhd (show CK = if c.fine then 0 else 1 from HCK.out.trans ((if_neg H1.out).trans (if_neg (by rw [← HKK.out]; decide))))
  obtain ⟨f1, hf1⟩ : ∃ b, b = ((decide (64 ≤ c.mru) && decide (c.mru ≤ 1500)) && ((c.mrru == 0) || (decide (64 ≤ c.mrru) && decide (c.mrru ≤ 1500))) && ((c.bits == 0) || (decide (c.bits = 40) || decide (c.bits = 56) || decide (c.bits = 128))) && (decide (1 ≤ c.timeout) && decide (c.timeout ≤ 1000)) && (decide (1 ≤ c.tries) && decide (c.tries ≤ 1000)) && ((c.fragment == 0) || (decide (16 ≤ c.fragment) && decide (c.fragment ≤ 1500)))) := ⟨_, rfl⟩
  obtain ⟨f2, hf2⟩ : ∃ b, b = (((c.fragment == 0) || !(c.mrru == 0)) && (!(c.must || c.stateless || c.symbol) || !(c.bits == 0))) := ⟨_, rfl⟩
  have HFF := xhd (show c.fine = (f1 && f2) by rw [hf1, hf2]; exact y77 c)
  have hwi := lwithin_as c nm sc _ _ _ _ _ _ _ _ _ rfl rfl rfl rfl rfl rfl rfl rfl rfl w2
  rw [← hf1, ← HCV.out] at hwi
  have HWI := xhd hwi
  have HCO := xhd (fun W => y66 c nm sc _ _ _ rfl rfl rfl W)
  rw [← hf2, ← HCV.out] at HCO
  clear hf1 hf2 hwi
  go_upto_region 6 with fail
  refine wp_region_list ?_
  refine wpList_load_mid rfl 25 (.tmp 1) rfl cb 0 rfl (y07 c nm sc) _ (fun j v hv => by rw [Nat.zero_add, HC2.out.cell, List.getElem?_toArray]; exact hv) Tryz.underlying25 rfl y1c ?_
  rw [show Value.agg (y07 c nm sc).toArray = CV from HCV.out.symm]
  go_wp2_with fail
  refine HWI.out.mono ?_
  rintro e w3 ⟨rfl, hk3⟩
  have HK3 := xhd (HK2.out.trans hk3)
  have HC3 := xhd (HC2.out.keeps hk3 (fun e => e))
  clear hk3
  cases f1
  ·have HE2 := xhd (show CK = 1 by rw [HE.out, HFF.out]; rfl)
   go_wp2_with fail
   go_ret
   exact ⟨by rw [HE2.out]; rfl, HK3.out⟩
  ·have hco := HCO.out w3
   go_wp2_with (refine y50 (by rfl) 25 (.tmp 1) rfl cb 0 rfl (y07 c nm sc) CV HCV.out _ (fun j v hv => by rw [Nat.zero_add, HC3.out.cell, List.getElem?_toArray]; exact hv) Tryz.underlying25 rfl y1c ?_)
   refine hco.mono ?_
   rintro e w4 ⟨rfl, hk4⟩
   have HK4 := xhd (HK3.out.trans hk4)
   clear hk4 hco
   cases f2
   ·have HE2 := xhd (show CK = 1 by rw [HE.out, HFF.out]; rfl)
    go_wp2_with fail
    go_ret
    exact ⟨by rw [HE2.out]; rfl, HK4.out⟩
   ·have HE2 := xhd (show CK = 0 by rw [HE.out, HFF.out]; rfl)
    go_wp2_with fail
    go_ret
    exact ⟨by rw [HE2.out]; rfl, HK4.out⟩
section
variable {w : World} {k : LF} {R : Nat → Prop} {f : NF} {x : Pure.Lcp}
end
theorem newneg_any (Fu Fx : Nat → Prop) (xu x : Value) (us : List (Value × Pure.Rule)) (zs : List (Value × Pure.Opt)) (t u : Nat) (w : World) (hu : RRow w Fu xu us) (hx : ORow w Fx x zs) (hF : ∀ b, Fx b → b < w.heap.size) (hfu : FewRules us) (hfx : Pure.Fine (y02 zs)) (hm : y2n t u) :
  Calls Tryz.prog 66 #[xu, x, .int .i64 (t : Int), .int .i64 (u : Int)] w fun e w' => ∃ g f R, e = .returned (.tuple #[.pointer (some ⟨g, 0, none⟩), .int .i64 0]) ∧ NObj w' g R f (Pure.newNeg (y0e us) (y02 zs) t u) ∧ w.heap.size ≤ g ∧ (w.heap.size ≤ f.gm ∧ f.gm.j = y3s g) ∧ (∀ b, R b → w.heap.size ≤ b) ∧ Keeps y01 w w' := by
 obtain ⟨X, cx, rfl, _⟩ := hx.form
 obtain ⟨U, cu, rfl, _⟩ := hu.form
 have HX := xhd hx
 have HU := xhd hu
 have HF := xhd hF
 have HFU := xhd hfu
 have HFX := xhd hfx
 have HMB := xhd hm
 have HN := xhd (new_ok t u w hm)
 have hzl := hfx.len
 have hzl2 : zs.length ≤ 32 := by simpa using hzl
 clear hu hx hF hfu hfx hm hzl
 go_enter Tryz.func66, Tryz.ntmps66
 go_wp2_with fail
 refine HN.out.mono ?_
 rintro e w1 ⟨rfl, hm1, hk1⟩
 obtain ⟨gm, hgm⟩ : ∃ q, q = w.heap.size := ⟨_, rfl⟩
 rw [← hgm] at hm1 ⊢
 have HM1 := xhd hm1
 have HK1 := xhd hk1
 have HGM := xhd hgm
 have HIR := xhd (y78 Fx (.slice X zs.length cx) zs w1 (fun b hb => Nat.lt_of_lt_of_le (HF.out b hb) hk1.size) (HX.out.keeps hk1 (fun _ _ h => h)))
 have HD := decide_eq_true (show (Pure.options (y02 zs)).1 = 0 from Pure.fine_options HFX.out)
 rw [HD] at HIR
 clear hm1 hk1 hgm HN HD
 go_wp2_with fail
 refine HIR.out.mono ?_
 rintro e w2 ⟨rfl, hk2⟩
 have HM2 := xhd (HM1.out.keeps hk2 (fun h => h))
 have HK2 := xhd (HK1.out.trans hk2)
 have HCR := xhd (y3x Fu (.slice U us.length cu) us w2 (HU.out.keeps HK2.out (fun _ _ h => h)) HFU.out)
 clear hk2 HIR HM1
 go_wp2_with fail
 refine HCR.out.mono ?_
 rintro e w3 ⟨u3, q3, rfl, hq3, hr3⟩
 obtain ⟨A3, c3, rfl⟩ := y04 hr3.own
 have HQ3 := xhd hq3
 have HR3 := xhd hr3.row
 have HM3 := xhd (HM2.out.keeps hr3.kept (fun h => h))
 have HK3 := xhd (HK2.out.trans hr3.kept)
 have HS23 := xhd hr3.kept.size
 have HGW2 := xhd (show gm < w2.heap.size from Blk.lt HM2.out)
 have HCP := xhd (y2j Fx (.slice X zs.length cx) zs w3 (HX.out.keeps HK3.out (fun _ _ h => h)) (by omega) (y1u HFX.out).data)
 clear hq3 hr3 HCR
 go_wp2_with fail
 refine HCP.out.mono ?_
 rintro e w4 ⟨u4, q4, rfl, hq4, hr4⟩
 obtain ⟨A4, c4, rfl⟩ := y04 hr4.own
 have hk34 : Keeps y01 w3 w4 := Keeps.new hr4.below
 have HQ4 := xhd hq4
 have HR4 := xhd hr4.row.strong
 have HR3b := xhd (HR3.out.keeps hk34 (fun _ _ h => h))
 have HM4 := xhd (HM3.out.keeps hk34 (fun h => h))
 have HK4 := xhd (HK3.out.trans hk34)
 have HS34 := xhd hk34.size
 clear hq4 hr4 hk34 HCP HR3
 go_upto_region 7 with fail
 obtain ⟨w5a, hw5a⟩ : ∃ q, q = w4.alloc (.cells #[.pointer (some ⟨gm, 0, none⟩), .slice A3 q3.length c3, .nilFunc, .int .i64 (t : Int), .slice A4 q4.length c4, .slice none 0 0, .int .i64 0, .slice none 0 0, .bool false, .int .i64 0, .int .i64 0, .slice none 0 0, .slice none 0 0, .int .i64 0] 171) := ⟨_, rfl⟩
 obtain ⟨g, hg⟩ : ∃ q, q = w4.heap.size := ⟨_, rfl⟩
 rw [← hw5a, ← hg]
 have hk5a : Keeps y01 w4 w5a := by rw [hw5a]; exact (Keeps.refl _ w4).alloc _
 have hs5a : w5a.heap.size = g + 1 := by rw [hw5a, hg]; simp
 have hB5a : Blk w5a g 171 (⟨⟨gm, .nilFunc⟩, .slice A3 q3.length c3, t, .slice A4 q4.length c4, .slice none 0 0, 0, .slice none 0 0, false, 0, 0, .slice none 0 0, .slice none 0 0, 0⟩ : NF).list.toArray := by
  rw [hw5a, hg]
  exact Blk.new w4 _ _
 have c2 : w5a.cell? ⟨g, 2, none⟩ = some .nilFunc := by rw [hB5a.cell]; rfl
 have f2 := hB5a.frozen 2
 obtain ⟨w5, hw5⟩ : ∃ q, q = w5a.setCell ⟨g, 2, none⟩ (y3s g) := ⟨_, rfl⟩
 have hk5 : Keeps y01 w4 w5 := by rw [hw5]; exact hk5a.trans' ((Keeps.refl (only g) w5a).put 2 _) (fun i hi hl => by have e : i = g := hi; omega)
 have hs5 : w5.heap.size = g + 1 := by rw [hw5]; simp [hs5a]
 have HB5 := xhd (show NBlk w5 g (⟨⟨gm, y3s g⟩, .slice A3 q3.length c3, t, .slice A4 q4.length c4, .slice none 0 0, 0, .slice none 0 0, false, 0, 0, .slice none 0 0, .slice none 0 0, 0⟩ : NF) by
  rw [hw5]
  exact hB5a.set 2 (y3s g))
 clear hk5a hs5a hB5a hw5a
 have HM5 := xhd (HM4.out.keeps hk5 (fun h => h))
 have HR35 := xhd (HR3b.out.keeps hk5 (fun _ _ h => h))
 have HR45 := xhd (HR4.out.keeps hk5 (fun _ _ h => h))
 have HK5 := xhd (HK4.out.trans hk5)
 have HG := xhd hg
 have HS5 := xhd hs5
 have hl4 : q4.length = zs.length := by have := congrArg List.length HQ4.out; simpa using this
 have HF4 := xhd (y1u (zs := q4) (by rw [HQ4.out]; exact HFX.out))
 have HBG := xhd (y3e (fun b => w3.heap.size ≤ b ∧ b < w4.heap.size) g _ q4 w5 HB5.out HR45.out HF4.out)
 clear hg hk5 hs5 HM4 HR3b HR4 hl4
 go_upto_region 8 with fail
 rw [← hw5]
 clear hw5 c2 f2
 go_wp2_with fail
 refine HBG.out.mono ?_
 rintro e w6 ⟨rfl, u6, q6, hq6, hr6, hb6, hk6⟩
 obtain ⟨B6, c6, rfl, _⟩ := hr6.form
 have hg6 : g < w5.heap.size := HB5.out.lt
 have hgm6 : gm < w2.heap.size := HGW2.out
 have HOBJ := xhd (show NObj w6 g (fun b => w2.heap.size ≤ b ∧ b < w6.heap.size ∧ b ≠ g) _ (Pure.newNeg (y0e us) (y02 zs) t u) from by
  have hks : ∀ b, b ≠ g → ¬ only g b := fun b hb e => hb e
  have hw := hk6.size
  have hS5 := HS5.out
  have hG := HG.out
  have h34 := HS34.out
  have h23 := HS23.out
  have hmb := HMB.out
  unfold y2n at hmb
  have hW : (Pure.newNeg (y0e us) (y02 zs) t u).Well := ⟨Pure.newMach_good (by omega) (by omega), by show t ≤ 1000; omega, by show u ≤ 1000; omega, by show 0 < 256; omega, HFX.out, HFX.out, Pure.fine_nil, rfl⟩
  refine ⟨hb6, HM5.out.keeps hk6 (fun e => by have e : gm = g := e; omega), hW, rfl, rfl, rfl, rfl, rfl, rfl, ⟨q3, ?_, HQ3.out, ?_⟩, ?_, ?_, ?_, ?_, ?_, fun b hb => hb.2.1, fun h => h.2.2 rfl, fun h => by have h1 : w2.heap.size ≤ gm := h.1; omega, by show g ≠ gm; omega⟩
  ·exact (HR35.out.keeps hk6 (fun b hb e => by have e : b = g := e; have := hb.2; omega)).mono (fun b hb => ⟨by rcases hb.1 with h | h <;> exact h, by have := hb.2; omega, by have := hb.2; omega⟩)
  ·refine ⟨?_, fun p hp => ?_⟩
   ·have := congrArg List.length HQ3.out
    simp at this
    rw [this]; exact HFU.out.len
   ·have h1 : p.2 ∈ y0e us := by rw [← HQ3.out]; exact List.mem_map.2 ⟨p, hp, rfl⟩
    obtain ⟨q, hq, he⟩ := List.mem_map.1 h1
    rw [← he]
    exact HFU.out.ok q hq
  ·exact ⟨q4, (HR45.out.keeps hk6 (fun b hb e => by have e : b = g := e; have := hb.2; omega)).mono (fun b hb => ⟨by have := hb.1; omega, by have := hb.2; omega, by have := hb.2; omega⟩), HQ4.out, HF4.out⟩
  ·refine ⟨q6, hr6.strong.mono (fun b hb => ⟨by have := hb.1; omega, hb.2, by have := hb.1; omega⟩), hq6.trans HQ4.out, y1u ?_⟩
   rw [hq6, HQ4.out]; exact HFX.out
  ·exact ⟨[], ORow.nil _ _, rfl, by simp, by simp⟩
  ·exact ⟨[], ORow.nil _ _, rfl, by simp, by simp⟩
  ·exact ⟨[], ORow.nil _ _, rfl, by simp, by simp⟩)
 have HKF := xhd (show Keeps y01 w w6 from HK5.out.trans' hk6 (fun i hi hl => by have e : i = g := hi; have := HG.out; have := HK4.out.size; omega))
 have HGW := xhd (show w.heap.size ≤ g by have := HG.out; have := HK4.out.size; omega)
 have HMW := xhd (show w.heap.size ≤ gm by have := HGM.out; omega)
 have HRW := xhd (show ∀ b, (w2.heap.size ≤ b ∧ b < w6.heap.size ∧ b ≠ g) → w.heap.size ≤ b from fun b hb => Nat.le_trans HK2.out.size hb.1)
 clear hq6 hr6 hb6 hk6 hg6 hgm6 HBG
 go_wp2_with fail
 go_ret2
 exact ⟨g, _, _, rfl, HOBJ.out, HGW.out, ⟨HMW.out, rfl⟩, HRW.out, HKF.out⟩
end Go.Proofs.YtmgicbckgpdkcaaGreatDoor
