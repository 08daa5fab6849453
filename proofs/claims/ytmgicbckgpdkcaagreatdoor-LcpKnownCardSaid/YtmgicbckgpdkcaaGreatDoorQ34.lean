/- Chapter 14's statements: awake. -/
import Derived.Test.YtmgicbckgpdkcaaGreatDoorQ33
import Derived.Great.Walk
namespace Go.Proofs.YtmgicbckgpdkcaaGreatDoor
set_option maxRecDepth 100000
set_option maxHeartbeats 16000000
open _root_.Go.Lib renaming hid → xhd
open Go.RowKit
theorem MadeIs.fine {c : Pure.Cfg} {s : Bool} {t : Int} (h : MadeIs c s t) (ht : 1 ≤ t ∧ t ≤ 4) : c.fine = true := by
 obtain ⟨_, _, _, h4, _, h6, h7, ⟨n1, n2, n3⟩, h9, h10⟩ := h
 unfold Pure.Cfg.fine Pure.inInfo
 rw [n3, h9, h10]
 rcases h4 with e | e <;> rcases h6 with ⟨a1, a2, a3⟩ | ⟨a1, a3 | ⟨a3, a4⟩⟩ <;> rcases h7 with ⟨b1, b2, b3⟩ | b1 | b1 | b1 <;> simp_all <;> omega
theorem MadeIs.check {c : Pure.Cfg} {s : Bool} {t : Int} (h : MadeIs c s t) (ht : 1 ≤ t ∧ t ≤ 4) : c.check = 0 := by
 unfold Pure.Cfg.check
 rw [h.fine ht, h.name, h.secret]
 decide +kernel
theorem MadeIs.accm4 {c : Pure.Cfg} {s : Bool} {t : Int} (h : MadeIs c s t) : c.accm < 4294967296 := by
 rcases h.accm with e | e <;> omega
theorem lone_pkt {qs : List (Value × Pure.Pkt)} {o : Pure.Pkt} (h : qs.map Prod.snd = [o]) : ∃ v, qs = [(v, o)] := by
 match qs, h with
 | [(v, o')], h =>
  injection h with h1 _
  exact ⟨v, by rw [← h1]⟩
theorem newmade_any (c : Pure.Cfg) (s : Bool) (t : Int) (h : MadeIs c s t) (ht : 1 ≤ t ∧ t ≤ 4) (m : Nat) (hm : m < 4294967296) (w : World) (E : Env w) :
  Calls Tryz.prog 26 #[cfgV c nmN scS, .int .u32 (m : Int)] w fun e w' => ∃ k f R, e = .returned (.tuple #[.pointer (some ⟨k.l, 0, none⟩), .int .i64 0]) ∧ LObj w' k R f (Pure.newLcp c m) ∧ w.heap.size ≤ k.l ∧ w.heap.size ≤ k.g ∧ w.heap.size ≤ k.gm ∧ (∀ b, R b → w.heap.size ≤ b) ∧ Keeps nobody w w' :=
 lnew_any c nmN scS (by rw [h.name]) (by rw [h.secret]) (by rw [h.secret]; decide) (h.check ht) (h.fine ht) h.accm4 m hm w E
theorem cfg13_is : MadeIs cfg13 true 4 := ⟨rfl, rfl, rfl, .inl rfl, .inl rfl, .inl ⟨rfl, rfl, rfl⟩, .inl ⟨rfl, rfl, rfl⟩, ⟨rfl, rfl, rfl⟩, rfl, rfl⟩
theorem Env.quiet {w w' : World} (h : Env w) (k : Keeps nobody w w') : Env w' := ⟨h.hd.keeps k (fun e => e), h.tb.below k.to_below⟩
theorem lcp_up (c : Pure.Cfg) (m : Nat) : (Pure.newLcp c m).act 0 = (⟨c, ⟨c.rules, c.ask m, c.ask m, ⟨2, 0, 0, c.tries.toNat, c.timeout.toNat⟩, 0, 0, 0, false, [], [], 0, []⟩⟩, .of Pure.mute) := rfl
theorem lcp_open (c : Pure.Cfg) (m : Nat) : (⟨c, ⟨c.rules, c.ask m, c.ask m, ⟨2, 0, 0, c.tries.toNat, c.timeout.toNat⟩, 0, 0, 0, false, [], [], 0, []⟩⟩ : Pure.Lcp).act 2 = (⟨c, Pure.begun c.rules (c.ask m) c.tries.toNat c.timeout.toNat⟩, .of (Pure.sends [⟨1, 1, (Pure.options (c.ask m)).2⟩])) := rfl
theorem data13 : (Pure.options (cfg13.ask 7)).2 = [3, 5, 194, 35, 129, 5, 6, 0, 0, 0, 7] := by decide +kernel
theorem lawake_any (w : World) (E : Env w) : Calls Tryz.prog 12 #[] w fun e w' => e = .returned (.bool true) ∧ Keeps nobody w w' := by
 have HM := xhd (made13_any w)
 have HE := xhd E
 clear E
 go_enter Tryz.func12, Tryz.ntmps12
 go_wp2_with fail
 refine HM.out.mono ?_
 rintro e w1 ⟨rfl, hk1⟩
 have HK1 := xhd hk1
 have HNW := xhd (newmade_any cfg13 true 4 cfg13_is (by decide) 7 (by decide) w1 (HE.out.quiet hk1))
 clear hk1 HM
 go_wp2_with fail
 refine HNW.out.mono ?_
 rintro e w2 ⟨k, f, R, rfl, hobj, hl, hg, hm, hR, hk2⟩
 have HOB := xhd hobj
 have HNG := xhd (show w.heap.size ≤ k.g ∧ w.heap.size ≤ k.gm from ⟨Nat.le_trans HK1.out.size hg, Nat.le_trans HK1.out.size hm⟩)
 have HK2 := xhd (HK1.out.trans hk2)
 have HUP := xhd (ldo_any hobj 0 (.inl rfl) (by decide))
 clear hobj hl hg hm hR hk2 HNW HK1
 rw [lcp_up] at HUP
 go_wp2_with fail
 refine HUP.out.mono ?_
 rintro e w3 ⟨v3, rfl, hout3, f3, R3, hobj3, hsub3, hk3⟩
 obtain ⟨sv3, ps3, rfl, _⟩ := hout3
 have HOB3 := xhd hobj3
 have HK3 := xhd (show Keeps nobody w w3 from HK2.out.trans' hk3 (fun i hi hl => by have h1 := HNG.out.1; have h2 := HNG.out.2; rcases hi with e | e <;> omega))
 have HOP := xhd (ldo_any hobj3 2 (.inr (.inr (.inl rfl))) (by decide))
 clear hobj3 hsub3 hk3 HUP HOB HK2
 rw [lcp_open] at HOP
 go_wp2_with fail
 refine HOP.out.mono ?_
 rintro e w4 ⟨v4, rfl, hout4, f4, R4, hobj4, hsub4, hk4⟩
 obtain ⟨sv4, ps4, rfl, hpr4, hps4, _⟩ := hout4
 have HK4 := xhd (show Keeps nobody w w4 from HK3.out.trans' hk4 (fun i hi hl => by have h1 := HNG.out.1; have h2 := HNG.out.2; rcases hi with e | e <;> omega))
 rw [show (Pure.LSaid.of (Pure.sends [⟨1, 1, (Pure.options (cfg13.ask 7)).2⟩])).said = Pure.sends [⟨1, 1, (Pure.options (cfg13.ask 7)).2⟩] from rfl, data13] at hps4
 obtain ⟨v11, rfl⟩ := lone_pkt (show ps4.map Prod.snd = [(⟨1, 1, [3, 5, 194, 35, 129, 5, 6, 0, 0, 0, 7]⟩ : Pure.Pkt)] from hps4)
 obtain ⟨_, _, X10, c10, rfl, _, _, _⟩ := hpr4.out
 obtain ⟨bp, op, B5, d5, q5, hX5, _, z5, hr5, hp5⟩ := hpr4.pick 0 (by simp)
 subst hX5
 obtain ⟨rfl, rfl⟩ : v11 = .slice B5 q5.data.length d5 ∧ q5 = ⟨1, 1, [3, 5, 194, 35, 129, 5, 6, 0, 0, 0, 7]⟩ := by
  have h : some (v11, (⟨1, 1, [3, 5, 194, 35, 129, 5, 6, 0, 0, 0, 7]⟩ : Pure.Pkt)) = some (.slice B5 q5.data.length d5, q5) := hp5
  injection h with h
  injection h with h1 h2
  exact ⟨h1, h2.symm⟩
 rw [Nat.zero_mul, Nat.add_zero] at z5
 have z50 : w4.cell? ⟨bp, op, none⟩ = some (.int .i64 1) := z5 0 _ rfl
 have z51 : w4.cell? ⟨bp, op + 1, none⟩ = some (.int .i64 1) := z5 1 _ rfl
 have z52 : w4.cell? ⟨bp, op + 2, none⟩ = some (.slice B5 11 d5) := z5 2 _ rfl
 have HST := xhd (fun (W : World) (hk : Keeps nobody w4 W) => show Calls Tryz.prog 40 #[.pointer (some ⟨k.l, 0, none⟩)] W fun e w' => e = .returned (.int .i64 6) ∧ W = w' from lstate_any (hobj4.quiet hk))
 clear z5 hr5 hp5 hpr4 hps4 hobj4 hsub4 hk4 HOP HOB3 HK3 HNG
 rw [show ([(.slice B5 (⟨1, 1, [3, 5, 194, 35, 129, 5, 6, 0, 0, 0, 7]⟩ : Pure.Pkt).data.length d5, (⟨1, 1, [3, 5, 194, 35, 129, 5, 6, 0, 0, 0, 7]⟩ : Pure.Pkt))] : List (Value × Pure.Pkt)).length = 1 from rfl]
 go_upto_region 6 with fail
 have hk5 : Keeps nobody w4 (w4.alloc (.cells #[.slice (some ⟨bp, op, none⟩) 1 c10, .bool false, .bool false, .bool false, .bool false, .int .i64 0] 61)) := (Keeps.refl _ w4).alloc _
 have HS5 := xhd (HST.out _ hk5)
 have HK5 := xhd (HK4.out.trans hk5)
 clear hk5 HST HK4
 go_wp2_with fail
 refine HS5.out.mono ?_
 rintro e w6 ⟨rfl, rfl⟩
 go_wp2_with fail
 go_ret
 exact ⟨rfl, HK5.out⟩
abbrev cfgA : Pure.Cfg := { cfg13 with accm := 0 }
abbrev cfgM : Pure.Cfg := { cfgA with mru := 63 }
abbrev cfgT : Pure.Cfg := { cfgA with must := true }
theorem askA : cfgA.ask 7 = [(2, [0, 0, 0, 0]), (3, [194, 35, 129]), (5, [0, 0, 0, 7])] := by decide +kernel
theorem three_opts {qs : List (Value × Pure.Opt)} {o1 o2 o3 : Pure.Opt} (h : optsOf qs = [o1, o2, o3]) : ∃ a b c, qs = [(a, o1), (b, o2), (c, o3)] := by
 match qs, h with
 | [(a, p), (b, q), (c, r)], h =>
  injection h with h1 h
  injection h with h2 h
  injection h with h3 _
  exact ⟨a, b, c, by rw [← h1, ← h2, ← h3]⟩
theorem cell_kept {w w' : World} {b o : Nat} {v : Value} (h : w.cell? ⟨b, o, none⟩ = some v) (k : Keeps nobody w w') : w'.cell? ⟨b, o, none⟩ = some v := by
 have hl := cell_lt h
 unfold World.cell? at h ⊢
 rw [k.block b hl (fun e => e)]
 exact h
abbrev zeroCfg : Array Value := (cfgCells ⟨false, [], [], 0, false, false, 0, 0, false, 0, false, false, false, false, false, 0, 0, 0⟩ ByteArray.empty ByteArray.empty).toArray
theorem run_alloc_cfg (ρ : Operand → Value) (d : Option Tmp) (ty : TypeId) (ps : String) (af : Array _) (w : World) :
  (execOp ρ { dst := d, op := .alloc 25, type := ty, pos := ps, after := af, guard := none }).run Tryz.prog w = .ok (.value (.pointer (some ⟨w.heap.size, 0, none⟩))) (w.alloc (.cells zeroCfg 25)) := by
 kernel_rfl
theorem wpList_load_guarded {P : Program} {ops : Array Oper} {rest : List Oper} {op : Oper} {a : Act} {w : World} {Q : Exit → Act → World → Prop} (hgw : Region.wanted op (yielded ops a.tmps) = true) (ty : TypeId) (x : Operand) (ho : op.op = .load ty x)
  (b o : Nat) (hx : a.eval x = .pointer (some ⟨b, o, none⟩)) (cs : List Value) (d : TypeDesc) (hc : w.rangeAt b o cs)
  (hu : P.underlying ty = some d) (hd : d.isRow = true) (hi : (P.info? ty).map (·.size) = some cs.length)
  (h : wpList P ops Q rest (a.put op.dst (.agg cs.toArray)) w) : wpList P ops Q (op :: rest) a w :=
 wpList_step fun K hK => by rw [if_pos hgw]; exact wp_load_mid ty x ho b o hx cs d hc hu hd hi (hK _ _ h)
theorem known14_any (w : World) (E : Env w) : Calls Tryz.prog 3 #[] w fun e w' => e = .returned (.bool true) ∧ Keeps nobody w w' := by
 have HAW := xhd (lawake_any w E)
 have HE := xhd E
 clear E
 go_enter Tryz.func3, Tryz.ntmps3
 go_wp2_with fail
 refine HAW.out.mono ?_
 rintro e w1 ⟨rfl, hk1⟩
 have HK1 := xhd hk1
 have HM := xhd (made13_any w1)
 clear hk1 HAW
 go_wp2_with fail
 refine HM.out.mono ?_
 rintro e w2 ⟨rfl, hk2⟩
 have HK2 := xhd (HK1.out.trans hk2)
 clear hk2 HM HK1
 go_upto_region 4 with fail
 obtain ⟨cb, hcb⟩ : ∃ q, q = w2.heap.size := ⟨_, rfl⟩
 generalize hw3 : w2.alloc _ = w3
 rw [← hcb]
 have hb3 : Blk w3 cb 25 (cfgCells cfg13 nmN scS).toArray := by rw [← hw3, hcb]; exact Blk.new w2 _ _
 have HK3 := xhd (show Keeps nobody w w3 by rw [← hw3]; exact HK2.out.alloc _)
 have hn : ¬ cb < w.heap.size := by have := HK2.out.size; omega
 have hb4 := hb3.set 6 (.int .u32 0)
 have HB4 := xhd (show Blk (w3.setCell ⟨cb, 6, none⟩ (.int .u32 0)) cb 25 (cfgCells cfgA nmN scS).toArray from hb4)
 have HK4 := xhd (HK3.out.store cb 6 (fun e => absurd e hn) (.int .u32 0))
 have fz := hb3.frozen 6
 have cz : w3.cell? ⟨cb, 6, none⟩ = some (.int .u32 4294967295) := hb3.cell 6
 clear hcb hw3 hb3 hn hb4 HK2 HK3
 go_upto_region 5 with fail
 generalize w3.setCell _ _ = w4 at HB4 HK4 ⊢
 clear fz cz
 have HI := xhd cfg_info
 have HAS := xhd (lask_any cfgA nmN scS (by decide +kernel) (by decide) 7 (by decide) w4)
 rw [askA] at HAS
 refine wp_region_list ?_
 refine wpList_load_mid rfl 25 (.tmp 1) rfl cb 0 rfl (cfgCells cfgA nmN scS) _ (fun j v hv => by rw [Nat.zero_add, HB4.out.cell, List.getElem?_toArray]; exact hv) Tryz.underlying25 rfl HI.out ?_
 go_wp2_with fail
 refine HAS.out.mono ?_
 rintro e w5 ⟨v5, qs5, rfl, hq5, hr5⟩
 obtain ⟨A5, c5, rfl⟩ := own_form hr5.own
 obtain ⟨x1, x2, x3, rfl⟩ := three_opts hq5
 have HB5 := xhd (HB4.out.keeps (Keeps.new hr5.below) (fun e => e))
 have HK5 := xhd (HK4.out.trans (Keeps.new hr5.below))
 have HR5 := xhd hr5.row
 clear hq5 hr5 HAS HB4 HK4
 rw [show ([(x1, ((2 : Int), [(0 : UInt8), 0, 0, 0])), (x2, (3, [194, 35, 129])), (x3, (5, [0, 0, 0, 7]))] : List (Value × Pure.Opt)).length = 3 from rfl]
 go_upto_region 6 with fail
 refine wp_region_list ?_
 refine wpList_load_mid rfl 25 (.tmp 1) rfl cb 0 rfl (cfgCells cfgA nmN scS) _ (fun j v hv => by rw [Nat.zero_add, HB5.out.cell, List.getElem?_toArray]; exact hv) Tryz.underlying25 rfl HI.out ?_
 obtain ⟨db, hdb⟩ : ∃ q, q = w5.heap.size := ⟨_, rfl⟩
 obtain ⟨w6, hw6⟩ : ∃ q, q = World.setRow (w5.alloc (.cells zeroCfg 25)) db (cfgCells cfgA nmN scS).toArray := ⟨_, rfl⟩
 have hb6 : Blk w6 db 25 (cfgCells cfgA nmN scS).toArray := by rw [hw6, hdb]; exact (Blk.new _ _ _).rowSet _
 have hk6 : Keeps nobody w5 w6 := by rw [hw6]; exact ((Keeps.refl _ w5).alloc _).rowSet (fun e => absurd e (by omega)) _
 refine Go.Great.wpList_runTo rfl (some 3) rfl _ _ (run_alloc_cfg _ _ _ _ _ _) ?_
 refine wpList_store_row rfl 25 (.tmp 3) (.tmp 11) rfl w5.heap.size _ rfl rfl 25 _ (Blk.new w5 _ _) (by rw [HI.out]; rfl) rfl (by rw [List.all_toArray]; rfl) ?_
 rw [← hdb, ← hw6]
 go_upto_region 7 with fail
 have hn : ¬ db < w5.heap.size := by omega
 have hb7 := hb6.set 3 (.int .i64 63)
 have HD7 := xhd (show Blk (w6.setCell ⟨db, 3, none⟩ (.int .i64 63)) db 25 (cfgCells cfgM nmN scS).toArray from hb7)
 have HK67 := xhd (hk6.store db 3 (fun e => absurd e hn) (.int .i64 63))
 have fz := hb6.frozen 3
 have cz : w6.cell? ⟨db, 3, none⟩ = some (.int .i64 1500) := hb6.cell 3
 clear hdb hw6 hb6 hk6 hn hb7
 go_upto_region 8 with fail
 generalize w6.setCell _ _ = w7 at HD7 HK67 ⊢
 clear fz cz
 have HK7 := xhd (HK5.out.trans HK67.out)
 have HB7 := xhd (HB5.out.keeps HK67.out (fun e => e))
 have HR7 := xhd (HR5.out.keeps HK67.out (fun _ _ e => e))
 clear HK67 HB5 HK5 HR5
 refine wp_region_list ?_
 refine wpList_load_mid rfl 25 (.tmp 1) rfl cb 0 rfl (cfgCells cfgA nmN scS) _ (fun j v hv => by rw [Nat.zero_add, HB7.out.cell, List.getElem?_toArray]; exact hv) Tryz.underlying25 rfl HI.out ?_
 obtain ⟨tb, htb⟩ : ∃ q, q = w7.heap.size := ⟨_, rfl⟩
 obtain ⟨w8, hw8⟩ : ∃ q, q = World.setRow (w7.alloc (.cells zeroCfg 25)) tb (cfgCells cfgA nmN scS).toArray := ⟨_, rfl⟩
 have hb8 : Blk w8 tb 25 (cfgCells cfgA nmN scS).toArray := by rw [hw8, htb]; exact (Blk.new _ _ _).rowSet _
 have hk8 : Keeps nobody w7 w8 := by rw [hw8]; exact ((Keeps.refl _ w7).alloc _).rowSet (fun e => absurd e (by omega)) _
 refine Go.Great.wpList_runTo rfl (some 4) rfl _ _ (run_alloc_cfg _ _ _ _ _ _) ?_
 refine wpList_store_row rfl 25 (.tmp 4) (.tmp 13) rfl w7.heap.size _ rfl rfl 25 _ (Blk.new w7 _ _) (by rw [HI.out]; rfl) rfl (by rw [List.all_toArray]; rfl) ?_
 rw [← htb, ← hw8]
 go_upto_region 9 with fail
 have hn : ¬ tb < w7.heap.size := by omega
 have hb9 := hb8.set 13 (.bool true)
 have HT9 := xhd (show Blk (w8.setCell ⟨tb, 13, none⟩ (.bool true)) tb 25 (cfgCells cfgT nmN scS).toArray from hb9)
 have HK89 := xhd (hk8.store tb 13 (fun e => absurd e hn) (.bool true))
 have fz := hb8.frozen 13
 have cz : w8.cell? ⟨tb, 13, none⟩ = some (.bool false) := hb8.cell 13
 clear htb hw8 hb8 hk8 hn hb9
 go_upto_region 10 with fail
 generalize w8.setCell _ _ = w9 at HT9 HK89 ⊢
 clear fz cz
 have HK9 := xhd (HK7.out.trans HK89.out)
 have HB9 := xhd (HB7.out.keeps HK89.out (fun e => e))
 have HD9 := xhd (HD7.out.keeps HK89.out (fun e => e))
 have hr9 := HR7.out.keeps HK89.out (fun _ _ e => e)
 clear HK89 HB7 HK7 HR7 HD7
 obtain ⟨pX, oX, A1, d1, t1, l1, hX, _, y0, y1, r1, g1⟩ := hr9.pick 0 (by simp)
 subst hX
 obtain ⟨_, _, A2, d2, t2, l2, hX, _, y2, y3, r2, g2⟩ := hr9.pick 1 (by simp)
 injection hX with hX
 injection hX with hX hX2
 subst hX hX2
 obtain ⟨_, _, A3, d3, t3, l3, hX, _, y4, y5, r3, g3⟩ := hr9.pick 2 (by simp)
 injection hX with hX
 injection hX with hX hX2
 subst hX hX2
 obtain ⟨rfl, rfl⟩ : t1 = 2 ∧ l1 = [0, 0, 0, 0] := by
  have h : some (x1, ((2 : Int), [(0 : UInt8), 0, 0, 0])) = some (.slice A1 l1.length d1, (t1, l1)) := g1
  injection h with h
  injection h with h1 h2
  injection h2 with h2 h3
  exact ⟨h2.symm, h3.symm⟩
 obtain ⟨rfl, rfl⟩ : t2 = 3 ∧ l2 = [194, 35, 129] := by
  have h : some (x2, ((3 : Int), [(194 : UInt8), 35, 129])) = some (.slice A2 l2.length d2, (t2, l2)) := g2
  injection h with h
  injection h with h1 h2
  injection h2 with h2 h3
  exact ⟨h2.symm, h3.symm⟩
 obtain ⟨rfl, rfl⟩ : t3 = 5 ∧ l3 = [0, 0, 0, 7] := by
  have h : some (x3, ((5 : Int), [(0 : UInt8), 0, 0, 7])) = some (.slice A3 l3.length d3, (t3, l3)) := g3
  injection h with h
  injection h with h1 h2
  injection h2 with h2 h3
  exact ⟨h2.symm, h3.symm⟩
 rw [Nat.zero_mul, Nat.add_zero] at y0
 have HZ := xhd (show w9.cell? ⟨pX, oX, none⟩ = some (.int .i64 2) ∧ w9.cell? ⟨pX, oX + 1 * 2, none⟩ = some (.int .i64 3) ∧ w9.cell? ⟨pX, oX + 1 * 2 + 1, none⟩ = some (.slice A2 3 d2) ∧ w9.cell? ⟨pX, oX + 2 * 2 + 1, none⟩ = some (.slice A3 4 d3) ∧ Blk w9 cb 25 (cfgCells cfgA nmN scS).toArray ∧ Blk w9 db 25 (cfgCells cfgM nmN scS).toArray ∧ Blk w9 tb 25 (cfgCells cfgT nmN scS).toArray from ⟨y0, y2, y3, y5, HB9.out, HD9.out, HT9.out⟩)
 have HS2 := xhd (fun (W : World) (k : Keeps nobody w9 W) (y : Value) (hy : Row W (fun _ => True) 1 y ([194, 35, 129] : List UInt8).length (u8s [194, 35, 129])) => (show Calls Tryz.prog 15 #[.slice A2 3 d2, y] W fun e w' => e = .returned (.bool true) ∧ Keeps nobody W w' from same_any _ _ _ y [194, 35, 129] [194, 35, 129] W (r2.keeps k (fun _ _ h => h)) hy))
 have HS3 := xhd (fun (W : World) (k : Keeps nobody w9 W) (y : Value) (hy : Row W (fun _ => True) 1 y ([0, 0, 0, 7] : List UInt8).length (u8s [0, 0, 0, 7])) => (show Calls Tryz.prog 15 #[.slice A3 4 d3, y] W fun e w' => e = .returned (.bool true) ∧ Keeps nobody W w' from same_any _ _ _ y [0, 0, 0, 7] [0, 0, 0, 7] W (r3.keeps k (fun _ _ h => h)) hy))
 have HC0 := xhd (fun (W : World) (k : Keeps nobody w W) => (show Calls Tryz.prog 16 #[cfgV cfgA nmN scS] W fun e w' => e = .returned (.int .i64 0) ∧ Keeps nobody W w' from lcheck_any cfgA nmN scS rfl rfl (by decide) W (HE.out.quiet k)))
 have HCM := xhd (fun (W : World) (k : Keeps nobody w W) => (show Calls Tryz.prog 16 #[cfgV cfgM nmN scS] W fun e w' => e = .returned (.int .i64 1) ∧ Keeps nobody W w' from lcheck_any cfgM nmN scS rfl rfl (by decide) W (HE.out.quiet k)))
 have HCT := xhd (fun (W : World) (k : Keeps nobody w W) => (show Calls Tryz.prog 16 #[cfgV cfgT nmN scS] W fun e w' => e = .returned (.int .i64 1) ∧ Keeps nobody W w' from lcheck_any cfgT nmN scS rfl rfl (by decide) W (HE.out.quiet k)))
 have HK0 := xhd (Keeps.refl nobody w9)
 clear y0 y1 y2 y3 y4 y5 r1 r2 r3 g1 g2 g3 hr9 HB9 HD9 HT9 HE
 obtain ⟨s0, s1, s2, s3, sB, sD, sT⟩ := HZ.out
 have hya := row_new w9 [194, 35, 129] #[.int .u8 194, .int .u8 35, .int .u8 129] 3 rfl rfl (by simp)
 have hka : Keeps nobody w9 (w9.alloc (.cells #[.int .u8 194, .int .u8 35, .int .u8 129] 5)) := (Keeps.refl _ w9).alloc _
 have HA := xhd (HS2.out _ hka _ (hya.mono (fun _ _ => trivial)))
 have HKA := xhd hka
 have HB := xhd sB
 have HD := xhd sD
 have HT := xhd sT
 clear hya hka sB sD sT HZ HS2
 go_wp2_with fail
 refine HA.out.mono ?_
 rintro e wa ⟨rfl, hk⟩
 have hkA := HKA.out.trans hk
 have HKB := xhd hkA
 replace s3 := cell_kept s3 hkA
 have hyb := row_new wa [0, 0, 0, 7] #[.int .u8 0, .int .u8 0, .int .u8 0, .int .u8 7] 4 rfl rfl (by simp)
 have hkb : Keeps nobody wa (wa.alloc (.cells #[.int .u8 0, .int .u8 0, .int .u8 0, .int .u8 7] 5)) := (Keeps.refl _ wa).alloc _
 have HA2 := xhd (HS3.out _ (hkA.trans hkb) _ (hyb.mono (fun _ _ => trivial)))
 have HKC := xhd (hkA.trans hkb)
 clear s0 s1 s2 hk hkA hyb hkb HS3 HA HKA HKB
 go_wp2_with fail
 refine HA2.out.mono ?_
 rintro e wb ⟨rfl, hk⟩
 have hkC := HKC.out.trans hk
 have HKD := xhd (HK9.out.trans hkC)
 have L1 := xhd (HD.out.keeps hkC (fun e => e))
 have HTB := xhd (HT.out.keeps hkC (fun e => e))
 have HBB := xhd (HB.out.keeps hkC (fun e => e))
 have HC1 := xhd (HCM.out _ HKD.out)
 clear s3 hk hkC HKC HA2 HT HB HD HCM
 go_wp2_with (refine wpList_load_guarded (by rfl) 25 (.tmp 3) rfl db 0 rfl (cfgCells cfgM nmN scS) _ (fun j v hv => by rw [Nat.zero_add, Blk.cell (L1.out), List.getElem?_toArray]; exact hv) Tryz.underlying25 rfl HI.out ?_)
 refine HC1.out.mono ?_
 rintro e wc ⟨rfl, hk⟩
 have HKE := xhd (HKD.out.trans hk)
 have L2 := xhd (HTB.out.keeps hk (fun e => e))
 have HBC := xhd (HBB.out.keeps hk (fun e => e))
 have HC2 := xhd (HCT.out _ HKE.out)
 clear L1 hk HKD HTB HBB HCT HC1
 go_wp2_with (refine wpList_load_guarded (by rfl) 25 (.tmp 4) rfl tb 0 rfl (cfgCells cfgT nmN scS) _ (fun j v hv => by rw [Nat.zero_add, Blk.cell (L2.out), List.getElem?_toArray]; exact hv) Tryz.underlying25 rfl HI.out ?_)
 refine HC2.out.mono ?_
 rintro e wd ⟨rfl, hk⟩
 have HKF := xhd (HKE.out.trans hk)
 have L3 := xhd (HBC.out.keeps hk (fun e => e))
 have HC3 := xhd (HC0.out _ HKF.out)
 clear L2 hk HKE HBC HC0 HC2
 go_wp2_with (refine wpList_load_guarded (by rfl) 25 (.tmp 1) rfl cb 0 rfl (cfgCells cfgA nmN scS) _ (fun j v hv => by rw [Nat.zero_add, Blk.cell (L3.out), List.getElem?_toArray]; exact hv) Tryz.underlying25 rfl HI.out ?_)
 refine HC3.out.mono ?_
 rintro e we ⟨rfl, hk⟩
 have HKG := xhd (HKF.out.trans hk)
 clear L3 hk HKF HC3
 go_wp2_with fail
 go_ret
 exact ⟨rfl, HKG.out⟩
theorem lcpKnown_walk (w : World) (E : Env w) : Calls Tryz.prog 3 #[] w fun e w' => e = .returned (.bool true) ∧ Below w.heap.size w w' := (known14_any w E).mono fun _ _ ⟨h, k⟩ => ⟨h, k.to_below⟩
end Go.Proofs.YtmgicbckgpdkcaaGreatDoor
