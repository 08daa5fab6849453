/- Package lcp: Mine, Peer, Do, Tick. -/
import Derived.Test.YtmgicbckgpdkcaaGreatDoorQ30
import Derived.Test.YtmgicbckgpdkcaaGreatDoorQ11
import Derived.Test.YtmgicbckgpdkcaaGreatDoorQ15
import Derived.Test.YtmgicbckgpdkcaaGreatDoorQ13
import Derived.Deep.MidRow
namespace Go.Proofs.YtmgicbckgpdkcaaGreatDoor
set_option maxRecDepth 100000
set_option maxHeartbeats 16000000
open _root_.Go.Lib renaming hid → xhd
open Go.RowKit
namespace Pure
theorem event_rules (n : Neg) (e : Nat) (r : Option Reply) : (n.event e r).1.rules = n.rules := (acts_keeps r _ ({ n with m := (n.m.act2 e).2 }, mute)).rules
theorem act_rules (n : Neg) (e : Int) : (n.act e).1.rules = n.rules := by
 unfold Neg.act
 split
 ·rfl
 split
 ·exact event_rules n.again 0 none
 ·exact event_rules n e.toNat none
end Pure
theorem lout_info : (Tryz.prog.info? 61).map (·.size) = some 6 := by kernel_rfl
def LOuts (w w' : World) (v : Value) (o : Pure.LSaid) : Prop :=
 ∃ sv, ∃ ps : List (Value × Pure.Pkt), v = .agg #[sv, .bool o.said.up, .bool o.said.down, .bool o.said.start, .bool o.said.done, .int .i64 (o.reject : Int)] ∧ PRow w' (fun b => w.heap.size ≤ b ∧ b < w'.heap.size) sv ps ∧ ps.map Prod.snd = o.said.send ∧ ps.length ≤ 100
abbrev lzero : List Value := [.slice none 0 0, .bool false, .bool false, .bool false, .bool false, .int .i64 0]
section
variable {w : World} {k : LF} {R : Nat → Prop} {f : NF} {x : Pure.Lcp}
theorem ldo_any (h : LObj w k R f x) (e : Int) (he : e = 0 ∨ e = 1 ∨ e = 2 ∨ e = 3) (hnk : x.n.naks ≤ 1000) :
  Calls Tryz.prog 28 #[.pointer (some ⟨k.l, 0, none⟩), .int .i64 e] w fun r w' => ∃ v, r = .returned v ∧ LOuts w w' v (x.act e).2 ∧ LBecomes w w' k R (x.act e).1 := by
 have HI := xhd lout_info
 obtain ⟨ro, hro⟩ : ∃ q, q = w.heap.size := ⟨_, rfl⟩
 obtain ⟨w1, hw1⟩ : ∃ q, q = w.alloc (.cells lzero.toArray 61) := ⟨_, rfl⟩
 have hk1 : Keeps nobody w w1 := by rw [hw1]; exact (Keeps.refl _ w).alloc _
 have HO := xhd (show Blk w1 ro 61 lzero.toArray by rw [hw1, hro]; exact Blk.new w _ _)
 have h1 := h.quiet hk1
 have HN := xhd (negotiator_any h1)
 have hgl := h.obj.blk.lt
 have hml := Blk.lt h.obj.mach
 have HRG := xhd (show ro ≠ k.g by omega)
 have HRM := xhd (show ro ≠ f.gm by omega)
 have HNR := xhd (show ¬ R ro from fun e => by have := h.obj.lt ro e; omega)
 have HRL := xhd (show ro < w1.heap.size from HO.out.lt)
 have HR0 := xhd (show w.heap.size ≤ ro by omega)
 have HH := xhd h
 have HK1 := xhd hk1
 have HCALL := xhd (show Calls Tryz.prog 71 #[.pointer (some ⟨k.g, 0, none⟩), .int .i64 e] w1 fun r w' => ∃ v, r = .returned v ∧ Outs w1 w' v (x.n.act e).2 ∧ Becomes w1 w' k.g R f (x.n.act e).1 from by
  rcases he with rfl | he
  ·exact do_up k.g R f x.n w1 h1.obj
  ·exact do_other k.g R f x.n e he w1 h1.obj hnk)
 clear he hnk
 clear h hk1 h1 hgl hml
 go_enter Tryz.func28, Tryz.ntmps28
 go_upto_region 1 with fail
 rw [← hro]
 rw [show w.alloc (.cells #[.slice none 0 0, .bool false, .bool false, .bool false, .bool false, .int .i64 0] 61) = w1 from hw1.symm]
 clear hw1 hro
 go_wp2_with fail
 refine HN.out.mono ?_
 rintro e' w2 ⟨rfl, rfl⟩
 go_wp2_with fail
 refine HCALL.out.mono ?_
 rintro e' w5 ⟨v, rfl, hout, hbec⟩
 clear HCALL HN
 have hRo : Blk w5 ro 61 lzero.toArray := by
  obtain ⟨_, _, _, _, _, hk⟩ := hbec
  exact HO.out.keeps hk (fun e => by rcases e with e | e; exact HRG.out e; exact HRM.out e)
 have hfar := fun w'' (K : Keeps (only ro) w5 w'') => (hout.far K HRL.out).since HK1.out.size
 have hcl := fun w'' (K : Keeps (only ro) w5 w'') => hbec.close (f := f) rfl (fun b hb => .inl hb) (HK1.out.mono (fun _ e => e.elim)) K HR0.out HRL.out (fun e => HRG.out e.symm) (fun e => HRM.out e.symm) HNR.out
 obtain ⟨sv, ps, rfl, hprow, hpk, hfw⟩ := hout
 obtain ⟨A6, c6, rfl, _⟩ := hprow.form
 have z0 : w5.cell? ⟨ro, 0, none⟩ = some (.slice none 0 0) := by rw [hRo.cell]; rfl
 have f0 := hRo.frozen 0
 have z1 : w5.cell? ⟨ro, 1, none⟩ = some (.bool false) := by rw [hRo.cell]; rfl
 have f1 := hRo.frozen 1
 have z2 : w5.cell? ⟨ro, 2, none⟩ = some (.bool false) := by rw [hRo.cell]; rfl
 have f2 := hRo.frozen 2
 have z3 : w5.cell? ⟨ro, 3, none⟩ = some (.bool false) := by rw [hRo.cell]; rfl
 have f3 := hRo.frozen 3
 have z4 : w5.cell? ⟨ro, 4, none⟩ = some (.bool false) := by rw [hRo.cell]; rfl
 have f4 := hRo.frozen 4
 have z5 : w5.cell? ⟨ro, 5, none⟩ = some (.int .i64 0) := by rw [hRo.cell]; rfl
 have f5 := hRo.frozen 5
 obtain ⟨O1, hO1⟩ : ∃ b, b = ((x.n.act e).2).up := ⟨_, rfl⟩
 obtain ⟨O2, hO2⟩ : ∃ b, b = ((x.n.act e).2).down := ⟨_, rfl⟩
 obtain ⟨O3, hO3⟩ : ∃ b, b = ((x.n.act e).2).start := ⟨_, rfl⟩
 obtain ⟨O4, hO4⟩ : ∃ b, b = ((x.n.act e).2).done := ⟨_, rfl⟩
 rw [← hO1, ← hO2, ← hO3, ← hO4] at hfar ⊢
 have HZ := xhd ((((((hRo.set 0 (.slice A6 ps.length c6)).set 1 (.bool O1)).set 2 (.bool O2)).set 3 (.bool O3)).set 4 (.bool O4)).set 5 (.int .i64 0))
 have KR := (((((((Keeps.refl (only ro) w5).put 0 (.slice A6 ps.length c6)).put 1 (.bool O1)).put 2 (.bool O2)).put 3 (.bool O3)).put 4 (.bool O4)).put 5 (.int .i64 0))
 have HFAR := xhd (hfar _ KR)
 have HCL := xhd (HH.out.turned (Pure.act_rules x.n e) (hcl _ KR))
 have HO1 := xhd hO1
 have HO2 := xhd hO2
 have HO3 := xhd hO3
 have HO4 := xhd hO4
 clear hRo hfar hcl hprow hpk hfw KR hO1 hO2 hO3 hO4 hbec
 go_wp2_with fail
 refine bodyPost_ret (results_row1 rfl _ _ ro 61 _ (0, 0) _ rfl HZ.out Tryz.underlying61 rfl (by rw [HI.out]; rfl)) rfl ?_
 obtain ⟨sv', ps', e', hp', hs', hf'⟩ := HFAR.out
 injection e' with e'
 have e0 : sv' = .slice A6 ps.length c6 := by
  have := congrArg (fun a => a[0]?) e'
  simpa using this.symm
 subst e0
 refine ⟨_, rfl, ⟨_, ps', ?_, hp', hs', hf'⟩, HCL.out⟩
 show Value.agg _ = Value.agg #[_, .bool ((x.n.act e).2).up, .bool ((x.n.act e).2).down, .bool ((x.n.act e).2).start, .bool ((x.n.act e).2).done, .int .i64 0]
 rw [← HO1.out, ← HO2.out, ← HO3.out, ← HO4.out]
 rfl
end
section
variable {w : World} {k : LF} {R : Nat → Prop} {f : NF} {x : Pure.Lcp}
end
section
variable {w : World} {k : LF} {R : Nat → Prop} {f : NF} {x : Pure.Lcp}
end
section
variable {w : World} {k : LF} {R : Nat → Prop} {f : NF} {x : Pure.Lcp}
end
section
variable {w : World} {k : LF} {R : Nat → Prop} {f : NF} {x : Pure.Lcp}
end
theorem rules_short (c : Pure.Cfg) : c.rules.length ≤ 1000 := by
 unfold Pure.Cfg.rules
 cases c.server <;> cases c.pfc <;> cases c.acfc <;> by_cases h : c.mrru = 0 <;> simp [h]
section
variable {w : World} {k : LF} {R : Nat → Prop} {f : NF} {x : Pure.Lcp}
end
theorem LBecomes.close {w0 W w' w'' : World} {k : LF} {R : Nat → Prop} {x : Pure.Lcp} {ro : Nat} (hB : LBecomes W w' k R x) (k0 : Keeps nobody w0 W) (K : Keeps (only ro) w' w'') (h0 : w0.heap.size ≤ ro) (hW : ro < W.heap.size) (hl : ro ≠ k.l) (hg : ro ≠ k.g) (hm : ro ≠ k.gm) (hR : ¬ R ro) : LBecomes w0 w'' k R x := by
 obtain ⟨f', R', h1, h2, h3⟩ := hB
 refine ⟨f', R', h1.keeps K (fun e => hl (by have e : k.l = ro := e; exact e.symm)) (fun e => hg (by have e : k.g = ro := e; exact e.symm)) (fun e => hm (by have e : k.gm = ro := e; exact e.symm)) (fun b hb e => ?_), fun b hb => ?_, ?_⟩
 ·have e : b = ro := e
  subst e
  rcases h2 _ hb with h | h
  ·exact hR h
  ·omega
 ·rcases h2 b hb with h | h
  ·exact .inl h
  ·exact .inr (Nat.le_trans k0.size h)
 ·exact ((k0.mono (fun _ e => e.elim)).trans h3).trans' K (fun i hi hl => by have e : i = ro := hi; omega)
theorem LOuts.close {w0 W w' w'' : World} {v : Value} {o : Pure.LSaid} {ro : Nat} (h : LOuts W w' v o) (K : Keeps (only ro) w' w'') (hs : w0.heap.size ≤ W.heap.size) (hW : ro < W.heap.size) : LOuts w0 w'' v o := by
 obtain ⟨sv, ps, h1, h2, h3, h4⟩ := h
 exact ⟨sv, ps, h1, (h2.keeps K (fun b hb e => by have e : b = ro := e; have := hb.1; omega)).mono (fun b hb => ⟨Nat.le_trans hs hb.1, Nat.lt_of_lt_of_le hb.2 K.size⟩), h3, h4⟩
section
variable {w : World} {k : LF} {R : Nat → Prop} {f : NF} {x : Pure.Lcp}
end
theorem lwithin_as (c : Pure.Cfg) (nm sc : ByteArray) (b1 b2 b3 b4 b5 b6 z1 z2 z3 : Bool) (h1 : (decide (64 ≤ c.mru) && decide (c.mru ≤ 1500)) = b1) (h2 : (decide (64 ≤ c.mrru) && decide (c.mrru ≤ 1500)) = b2) (h3 : (decide (c.bits = 40) || decide (c.bits = 56) || decide (c.bits = 128)) = b3) (h4 : (decide (1 ≤ c.timeout) && decide (c.timeout ≤ 1000)) = b4) (h5 : (decide (1 ≤ c.tries) && decide (c.tries ≤ 1000)) = b5) (h6 : (decide (16 ≤ c.fragment) && decide (c.fragment ≤ 1500)) = b6) (q1 : (c.mrru == 0) = z1) (q2 : (c.bits == 0) = z2) (q3 : (c.fragment == 0) = z3) (w : World) :
  Calls Tryz.prog 54 #[cfgV c nm sc] w fun e w' => e = .returned (.bool (b1 && (z1 || b2) && (z2 || b3) && b4 && b5 && (z3 || b6))) ∧ Keeps nobody w w' := by
 obtain ⟨cb, hcb⟩ : ∃ q, q = w.heap.size := ⟨_, rfl⟩
 obtain ⟨w1, hw1⟩ : ∃ q, q = w.alloc (.cells (cfgCells c nm sc).toArray 25) := ⟨_, rfl⟩
 have HK := xhd (show Keeps nobody w w1 by rw [hw1]; exact (Keeps.refl _ w).alloc _)
 have hC : Blk w1 cb 25 (cfgCells c nm sc).toArray := by rw [hw1, hcb]; exact Blk.new w _ _
 have c3 : w1.cell? ⟨cb, 3, none⟩ = some (.int .i64 c.mru) := by rw [hC.cell]; rfl
 have c7 : w1.cell? ⟨cb, 7, none⟩ = some (.int .i64 c.mrru) := by rw [hC.cell]; rfl
 have c9 : w1.cell? ⟨cb, 9, none⟩ = some (.int .i64 c.bits) := by rw [hC.cell]; rfl
 have c15 : w1.cell? ⟨cb, 15, none⟩ = some (.int .i64 c.timeout) := by rw [hC.cell]; rfl
 have c16 : w1.cell? ⟨cb, 16, none⟩ = some (.int .i64 c.tries) := by rw [hC.cell]; rfl
 have c17 : w1.cell? ⟨cb, 17, none⟩ = some (.int .i64 c.fragment) := by rw [hC.cell]; rfl
 have H1 := xhd (isFrom_any c.mru 64 1500 w1)
 have H2 := xhd (isFrom_any c.mrru 64 1500 w1)
 have H3 := xhd (isStrength_any c.bits w1)
 have H4 := xhd (isFrom_any c.timeout 1 1000 w1)
 have H5 := xhd (isFrom_any c.tries 1 1000 w1)
 have H6 := xhd (isFrom_any c.fragment 16 1500 w1)
 rw [h1] at H1
 rw [h2] at H2
 rw [h3] at H3
 rw [h4] at H4
 rw [h5] at H5
 rw [h6] at H6
 clear hC h1 h2 h3 h4 h5 h6
 go_enter Tryz.func54, Tryz.ntmps54
 go_upto_region 1 with fail
 rw [← hcb, ← hw1]
 clear hcb hw1
 go_wp2_with fail
 refine H1.out.mono ?_
 rintro e w2 ⟨rfl, rfl⟩
 cases b1
 ·go_wp2_with fail
  go_ret
  exact ⟨rfl, HK.out⟩
 ·cases z1
  ·go_wp2_with fail
   refine H2.out.mono ?_
   rintro e w2 ⟨rfl, rfl⟩
   cases b2
   ·go_wp2_with fail
    go_ret
    exact ⟨rfl, HK.out⟩
   ·cases z2
    ·go_wp2_with fail
     refine H3.out.mono ?_
     rintro e w2 ⟨rfl, rfl⟩
     cases b3
     ·go_wp2_with fail
      go_ret
      exact ⟨rfl, HK.out⟩
     ·go_wp2_with fail
      refine H4.out.mono ?_
      rintro e w2 ⟨rfl, rfl⟩
      cases b4
      ·go_wp2_with fail
       go_ret
       exact ⟨rfl, HK.out⟩
      ·go_wp2_with fail
       refine H5.out.mono ?_
       rintro e w2 ⟨rfl, rfl⟩
       cases b5
       ·go_wp2_with fail
        go_ret
        exact ⟨rfl, HK.out⟩
       ·cases z3
        ·go_wp2_with fail
         refine H6.out.mono ?_
         rintro e w2 ⟨rfl, rfl⟩
         cases b6
         ·go_wp2_with fail
          go_ret
          exact ⟨rfl, HK.out⟩
         ·go_wp2_with fail
          go_ret
          exact ⟨rfl, HK.out⟩
        ·go_wp2_with fail
         go_ret
         exact ⟨rfl, HK.out⟩
    ·go_wp2_with fail
     refine H4.out.mono ?_
     rintro e w2 ⟨rfl, rfl⟩
     cases b4
     ·go_wp2_with fail
      go_ret
      exact ⟨rfl, HK.out⟩
     ·go_wp2_with fail
      refine H5.out.mono ?_
      rintro e w2 ⟨rfl, rfl⟩
      cases b5
      ·go_wp2_with fail
       go_ret
       exact ⟨rfl, HK.out⟩
      ·cases z3
       ·go_wp2_with fail
        refine H6.out.mono ?_
        rintro e w2 ⟨rfl, rfl⟩
        cases b6
        ·go_wp2_with fail
         go_ret
         exact ⟨rfl, HK.out⟩
        ·go_wp2_with fail
         go_ret
         exact ⟨rfl, HK.out⟩
       ·go_wp2_with fail
        go_ret
        exact ⟨rfl, HK.out⟩
  ·cases z2
   ·go_wp2_with fail
    refine H3.out.mono ?_
    rintro e w2 ⟨rfl, rfl⟩
    cases b3
    ·go_wp2_with fail
     go_ret
     exact ⟨rfl, HK.out⟩
    ·go_wp2_with fail
     refine H4.out.mono ?_
     rintro e w2 ⟨rfl, rfl⟩
     cases b4
     ·go_wp2_with fail
      go_ret
      exact ⟨rfl, HK.out⟩
     ·go_wp2_with fail
      refine H5.out.mono ?_
      rintro e w2 ⟨rfl, rfl⟩
      cases b5
      ·go_wp2_with fail
       go_ret
       exact ⟨rfl, HK.out⟩
      ·cases z3
       ·go_wp2_with fail
        refine H6.out.mono ?_
        rintro e w2 ⟨rfl, rfl⟩
        cases b6
        ·go_wp2_with fail
         go_ret
         exact ⟨rfl, HK.out⟩
        ·go_wp2_with fail
         go_ret
         exact ⟨rfl, HK.out⟩
       ·go_wp2_with fail
        go_ret
        exact ⟨rfl, HK.out⟩
   ·go_wp2_with fail
    refine H4.out.mono ?_
    rintro e w2 ⟨rfl, rfl⟩
    cases b4
    ·go_wp2_with fail
     go_ret
     exact ⟨rfl, HK.out⟩
    ·go_wp2_with fail
     refine H5.out.mono ?_
     rintro e w2 ⟨rfl, rfl⟩
     cases b5
     ·go_wp2_with fail
      go_ret
      exact ⟨rfl, HK.out⟩
     ·cases z3
      ·go_wp2_with fail
       refine H6.out.mono ?_
       rintro e w2 ⟨rfl, rfl⟩
       cases b6
       ·go_wp2_with fail
        go_ret
        exact ⟨rfl, HK.out⟩
       ·go_wp2_with fail
        go_ret
        exact ⟨rfl, HK.out⟩
      ·go_wp2_with fail
       go_ret
       exact ⟨rfl, HK.out⟩
theorem lconsistent_as (c : Pure.Cfg) (nm sc : ByteArray) (z1 z2 z3 : Bool) (q1 : (c.mrru == 0) = z1) (q2 : (c.bits == 0) = z2) (q3 : (c.fragment == 0) = z3) (w : World) :
  Calls Tryz.prog 55 #[cfgV c nm sc] w fun e w' => e = .returned (.bool ((z3 || !z1) && (!(c.must || c.stateless || c.symbol) || !z2))) ∧ Keeps nobody w w' := by
 obtain ⟨cb, hcb⟩ : ∃ q, q = w.heap.size := ⟨_, rfl⟩
 obtain ⟨w1, hw1⟩ : ∃ q, q = w.alloc (.cells (cfgCells c nm sc).toArray 25) := ⟨_, rfl⟩
 have HK := xhd (show Keeps nobody w w1 by rw [hw1]; exact (Keeps.refl _ w).alloc _)
 have hC : Blk w1 cb 25 (cfgCells c nm sc).toArray := by rw [hw1, hcb]; exact Blk.new w _ _
 have c7 : w1.cell? ⟨cb, 7, none⟩ = some (.int .i64 c.mrru) := by rw [hC.cell]; rfl
 have c9 : w1.cell? ⟨cb, 9, none⟩ = some (.int .i64 c.bits) := by rw [hC.cell]; rfl
 have c17 : w1.cell? ⟨cb, 17, none⟩ = some (.int .i64 c.fragment) := by rw [hC.cell]; rfl
 have c13 : w1.cell? ⟨cb, 13, none⟩ = some (.bool c.must) := by rw [hC.cell]; rfl
 have c10 : w1.cell? ⟨cb, 10, none⟩ = some (.bool c.stateless) := by rw [hC.cell]; rfl
 have c14 : w1.cell? ⟨cb, 14, none⟩ = some (.bool c.symbol) := by rw [hC.cell]; rfl
 have n1 : (c.mrru != 0) = !z1 := by rw [← q1]; rfl
 have n2 : (c.bits != 0) = !z2 := by rw [← q2]; rfl
 generalize c.must = m1 at *
 generalize c.stateless = m2 at *
 generalize c.symbol = m3 at *
 clear hC q1 q2
 go_enter Tryz.func55, Tryz.ntmps55
 go_upto_region 1 with fail
 rw [← hcb, ← hw1]
 clear hcb hw1
 cases m1 <;> cases m2 <;> cases m3 <;> cases z3 <;> cases z1 <;> cases z2
 all_goals
  go_wp2_with fail
  go_ret
  exact ⟨rfl, HK.out⟩
theorem fine_of_parts (c : Pure.Cfg) : c.fine = (((decide (64 ≤ c.mru) && decide (c.mru ≤ 1500)) && ((c.mrru == 0) || (decide (64 ≤ c.mrru) && decide (c.mrru ≤ 1500))) && ((c.bits == 0) || (decide (c.bits = 40) || decide (c.bits = 56) || decide (c.bits = 128))) && (decide (1 ≤ c.timeout) && decide (c.timeout ≤ 1000)) && (decide (1 ≤ c.tries) && decide (c.tries ≤ 1000)) && ((c.fragment == 0) || (decide (16 ≤ c.fragment) && decide (c.fragment ≤ 1500)))) && (((c.fragment == 0) || !(c.mrru == 0)) && (!(c.must || c.stateless || c.symbol) || !(c.bits == 0)))) := by
 unfold Pure.Cfg.fine Pure.inInfo
 generalize (c.must || c.stateless || c.symbol) = m
 rw [Bool.eq_iff_iff]
 cases m
 ·simp only [Bool.and_eq_true, Bool.or_eq_true, decide_eq_true_eq, beq_iff_eq, Bool.not_eq_true', beq_eq_false_iff_ne, Bool.not_false, ne_eq, true_or, or_true, and_true]
  omega
 ·simp only [Bool.and_eq_true, Bool.or_eq_true, decide_eq_true_eq, beq_iff_eq, Bool.not_eq_true', beq_eq_false_iff_ne, Bool.not_true, ne_eq, Bool.false_eq_true, or_false, false_or]
  omega
theorem cfg_info : (Tryz.prog.info? 25).map (·.size) = some 18 := by kernel_rfl
theorem hash_code (l : List UInt8) : (Pure.hash l).1 = (Pure.secret l).1 := by
 by_cases h : (Pure.secret l).1 = 0
 ·rw [Pure.hash_ok h, h]
 ·rw [Pure.hash_bad h]
section
variable {w : World} {k : LF} {R : Nat → Prop} {f : NF} {x : Pure.Lcp}
end
end Go.Proofs.YtmgicbckgpdkcaaGreatDoor
