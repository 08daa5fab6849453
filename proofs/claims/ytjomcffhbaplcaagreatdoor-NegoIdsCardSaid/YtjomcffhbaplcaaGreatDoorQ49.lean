/- Chapter 13's statements on two negotiators: what their walks share. -/
import Derived.Test.YtjomcffhbaplcaaGreatDoorQ47
import Derived.Test.YtjomcffhbaplcaaGreatDoorQ48
import Derived.Test.YtjomcffhbaplcaaGreatDoorQ3
import Derived.Test.YtjomcffhbaplcaaGreatDoorQ4
import Derived.Test.YtjomcffhbaplcaaGreatDoorQ8
import Derived.Test.YtjomcffhbaplcaaGreatDoorQ14
namespace Go.Proofs.YtjomcffhbaplcaaGreatDoor
open Go.RowKit
section
variable {w0 w : World} {g mb i gx gy : Nat} {mx my : GM} {Vm Vo : Value} {lm lo : List Pure.Pkt} {Mm Mo : Pure.Neg}
theorem NPair.state (h : NPair w0 w g mb i Vm Vo lm lo gx mx gy my Mm Mo) : Calls Tryz.prog 16 #[.pointer (some ⟨gx, 0, none⟩)] w fun e w' => e = .returned (.int .i64 (Mm.m.state : Nat)) ∧ w = w' := by
  obtain ⟨R, f, h⟩ := h.at
  exact nstate_any gx R f Mm w h
theorem NPair.mines (h : NPair w0 w g mb i Vm Vo lm lo gx mx gy my Mm Mo) : Calls Tryz.prog 18 #[.pointer (some ⟨gx, 0, none⟩)] w fun e w' => Given w w' e Mm.mine := by
  obtain ⟨R, f, h⟩ := h.at
  exact nmine_any gx R f Mm w h
theorem NPair.givens (h : NPair w0 w g mb i Vm Vo lm lo gx mx gy my Mm Mo) : Calls Tryz.prog 19 #[.pointer (some ⟨gx, 0, none⟩)] w fun e w' => Given w w' e Mm.given := by
  obtain ⟨R, f, h⟩ := h.at
  exact ngiven_any gx R f Mm w h
end
/-- Two that were made one behind the other. -/
theorem two_new {w0 wA wB wC wD wE : World} {gx gy : Nat} {fx fy : NF} {Rx Ry : Nat → Prop} {X Y : Pure.Neg} (env : Env13 w0) (bel : Below w0.heap.size w0 wA) (k1 : Keeps nobody wA wB) (hx : NObj wB gx Rx fx X) (x1 : wA.heap.size ≤ gx) (x2 : wA.heap.size ≤ fx.gm ∧ fx.gm.j = byRules gx) (_ : ∀ b, Rx b → wA.heap.size ≤ b)
    (k2 : Keeps nobody wB wC) (k3 : Keeps nobody wC wD) (hy : NObj wD gy Ry fy Y) (y1 : wC.heap.size ≤ gy) (y2 : wC.heap.size ≤ fy.gm ∧ fy.gm.j = byRules gy) (y3 : ∀ b, Ry b → wC.heap.size ≤ b) (k4 : Keeps nobody wD wE) : TwoNew w0 wE gx fx.gm gy fy.gm X Y := by
  have lx := hx.blk.lt
  have lm := Blk.lt hx.mach
  have hlt := hx.lt
  have s2 := k2.size
  have hB := bel.size
  refine ⟨fun b => if b = gx ∨ b = fx.gm then 1 else if b = gy ∨ b = fy.gm then 2 else 0, Rx, Ry, env, ?_, ⟨fx, ((hx.keeps k2 (fun h => h) (fun h => h) (fun _ _ h => h)).keeps k3 (fun h => h) (fun h => h) (fun _ _ h => h)).keeps k4 (fun h => h) (fun h => h) (fun _ _ h => h), rfl, x2.2⟩, ⟨fy, hy.keeps k4 (fun h => h) (fun h => h) (fun _ _ h => h), rfl, y2.2⟩, by simp, by simp, ?_, ?_, ?_, ?_, ?_⟩
  · exact Below.quiet bel (((k1.trans k2).trans k3).trans k4) bel.size
  · (try dsimp only); rw [if_neg (by omega), if_pos (.inl rfl)]
  · (try dsimp only); rw [if_neg (by omega), if_pos (.inr rfl)]
  · intro b hb
    have h1 : b ≠ gx := fun e => hx.ng (e ▸ hb)
    have h2 : b ≠ fx.gm := fun e => hx.nm (e ▸ hb)
    have h3 := hlt b hb
    (try dsimp only); rw [if_neg (by omega), if_neg (by omega)]
  · intro b hb
    have h1 : b ≠ gy := fun e => hy.ng (e ▸ hb)
    have h2 : b ≠ fy.gm := fun e => hy.nm (e ▸ hb)
    have h3 := y3 b hb
    (try dsimp only); rw [if_neg (by omega), if_neg (by omega)]
  · intro b _ hb
    (try dsimp only at hb)
    by_cases h1 : b = gx ∨ b = fx.gm
    · rcases h1 with rfl | rfl <;> omega
    · rw [if_neg h1] at hb
      by_cases h2 : b = gy ∨ b = fy.gm
      · have := k1.size
        rcases h2 with rfl | rfl <;> omega
      · rw [if_neg h2] at hb; exact absurd rfl hb
/-- A literal list of one rule. -/
theorem one_rule {w : World} {b : Nat} (r : Pure.Rule) (hr : r.want = []) (h : Blk w b 28 #[.int .i64 r.type, .int .i64 r.len, .int .i64 r.how, .int .i64 r.lo, .int .i64 r.hi, .slice none 0 0, .bool r.need]) :
    RRow w (fun x => x = b) (.slice (some ⟨b, 0, none⟩) 1 1) [(.slice none 0 0, r)] := by
  refine ⟨Row.block (F := fun x => x = b) (n := 1) (c := 1) (size := 7) (cs := #[.int .i64 r.type, .int .i64 r.len, .int .i64 r.how, .int .i64 r.lo, .int .i64 r.hi, .slice none 0 0, .bool r.need]) h rfl rfl (by unfold maxLen; omega) (Nat.le_refl _), fun p hp => ?_⟩
  rw [List.mem_singleton.1 hp]
  rw [hr]
  exact Row.nil _ _ _
/-- A list of one option, over bytes that lie there. -/
theorem one_option {w : World} {F : Nat → Prop} {b c : Nat} {t : Int} {A : Option Addr} {l : List UInt8} (hr : Row w F 1 (.slice A l.length c) l.length (u8s l)) (h : Blk w b 54 #[.int .i64 t, .slice A l.length c]) :
    ORow w (fun x => F x ∨ x = b) (.slice (some ⟨b, 0, none⟩) 1 1) [(.slice A l.length c, (t, l))] := by
  refine ⟨Row.block (F := fun x => F x ∨ x = b) (n := 1) (c := 1) (size := 2) (cs := #[.int .i64 t, .slice A l.length c]) h (.inr rfl) rfl (by unfold maxLen; omega) (Nat.le_refl _), fun p hp => ?_⟩
  rw [List.mem_singleton.1 hp]
  exact hr.mono (fun _ h => .inl h)
theorem u16_and (c : Nat) (hc : c < 65536) : bits .and .u16 (c : Int) 255 = ((c % 256 : Nat) : Int) := by
  show IntKind.u16.wrap (((BitVec.ofInt 16 (c : Int)) &&& (BitVec.ofInt 16 255)).toNat : Int) = _
  rw [BitVec.toNat_and]
  have h1 : (BitVec.ofInt 16 (c : Int)).toNat = c := by rw [BitVec.toNat_ofInt]; omega
  have h2 : (BitVec.ofInt 16 255).toNat = 255 := by rw [BitVec.toNat_ofInt]; rfl
  rw [h1, h2]
  have h3 : c &&& 255 = c % 256 := Nat.and_two_pow_sub_one_eq_mod c 8
  rw [h3]
  show ((c % 256 : Nat) : Int) % 65536 = _
  omega
/-- New, of rules and one option. -/
theorem new_one (Fu F : Nat → Prop) (xu : Value) (us : List (Value × Pure.Rule)) (t : Int) (A : Option Addr) (c n : Nat) (l : List UInt8) (W : World) (hu : RRow W Fu xu us) (hn : n = l.length) (hr : Row W F 1 (.slice A n c) n (u8s l)) (hfu : FewRules us) (hf : Pure.Fine [(t, l)]) (tr ti : Nat) (hm : mayBe tr ti) :
    Calls Tryz.prog 13 #[xu, .slice (some ⟨W.heap.size, 0, none⟩) 1 1, .int .i64 (tr : Int), .int .i64 (ti : Int)] (W.alloc (.cells #[.int .i64 t, .slice A n c] 54)) fun e w' => ∃ g f R, e = .returned (.tuple #[.pointer (some ⟨g, 0, none⟩), .int .i64 0]) ∧ NObj w' g R f (Pure.newNeg (rulesOf us) [(t, l)] tr ti) ∧ W.heap.size ≤ g ∧ (W.heap.size ≤ f.gm ∧ f.gm.j = byRules g) ∧ (∀ b, R b → W.heap.size ≤ b) ∧ Keeps nobody W w' := by
  subst hn
  have k : Keeps nobody W (W.alloc (.cells #[.int .i64 t, .slice A l.length c] 54)) := (Keeps.refl _ W).alloc _
  have ho := one_option (hr.keeps k (fun _ _ h => h)) (Blk.new W 54 #[.int .i64 t, .slice A l.length c])
  refine (newneg_any Fu _ xu _ us _ tr ti _ (hu.keeps k (fun _ _ h => h)) ho.strong (fun b hb => hb.2) hfu hf hm).mono ?_
  rintro e w' ⟨g, f, R, rfl, h1, h2, h3, h4, h5⟩
  have hs := k.size
  exact ⟨g, f, R, rfl, h1, by omega, ⟨by omega, h3.2⟩, fun b hb => by have := h4 b hb; omega, k.trans h5⟩
/-- The one option of a list. -/
theorem one_read {w : World} {F : Nat → Prop} {A : Option Addr} {c : Nat} {v : Value} {o : Pure.Opt} (h : ORow w F (.slice A 1 c) [(v, o)]) : ∃ p q A' c', A = some ⟨p, q, none⟩ ∧ v = .slice A' o.2.length c' ∧ w.cell? ⟨p, q, none⟩ = some (.int .i64 o.1) ∧ w.cell? ⟨p, q + 1, none⟩ = some v ∧ Row w F 1 v o.2.length (u8s o.2) := by
  obtain ⟨p, q, A', c', t, bs, rfl, _, h1, h2, h3, h4⟩ := h.pick 0 (by simp)
  simp only [List.getElem?_cons_zero, Option.some.injEq, Prod.mk.injEq] at h4
  obtain ⟨rfl, rfl⟩ := h4
  rw [Nat.zero_mul, Nat.add_zero] at h1 h2
  exact ⟨p, q, A', c', rfl, rfl, h1, h2, h3⟩
theorem newNeg_tame (rules : List Pure.Rule) (ask : List Pure.Opt) (t u : Nat) (h : rules.length ≤ 1000) : (Pure.newNeg rules ask t u).naks = 0 ∧ (Pure.newNeg rules ask t u).dropped = 0 ∧ (Pure.newNeg rules ask t u).rules.length ≤ 1000 := ⟨rfl, rfl, h⟩
end Go.Proofs.YtjomcffhbaplcaaGreatDoor
/- Chapter 13's statements on two negotiators: what was sent, read; ticks; New of no options. -/
namespace Go.Proofs.YtjomcffhbaplcaaGreatDoor
open Go.RowKit
section
variable {w0 w w' : World} {g mb i gx gy : Nat} {mx my : GM} {Vm Vo : Value} {lm lo : List Pure.Pkt} {Mm Mo : Pure.Neg}
theorem NPair.newer (h : NPair w0 w g mb i Vm Vo lm lo gx mx gy my Mm Mo) : w0.heap.size ≤ g ∧ w0.heap.size ≤ gx ∧ w0.heap.size ≤ mx ∧ g < w.heap.size ∧ gx < w.heap.size ∧ mx < w.heap.size := by
  obtain ⟨c, Rm, Ro, Fm, Fo, h⟩ := h
  have hml := h.me.lt
  have hgl : g < w.heap.size := by obtain ⟨cur, a, _⟩ := h.q; exact a.lt
  exact ⟨h.new g hgl (by rw [h.cg]; decide), h.new gx hml.1 (by rw [h.cgx]; decide), h.new mx hml.2.1 (by rw [h.cmx]; decide), hgl, hml.1, hml.2.1⟩
/-- Bytes of an argument. -/
theorem NPair.hand_old (h : NPair w0 w g mb i Vm Vo lm lo gx mx gy my Mm Mo) {F : Nat → Prop} {d : Value} {p : Pure.Pkt} (hd : Row w F 1 d p.data.length (u8s p.data)) (hF : ∀ b, F b → b < w0.heap.size) : Hand w g gx mx d p := by
  have hn := h.newer
  exact hd.mono (fun b hb => ⟨by have := hF b hb; have := h.below.size; omega, by have := hF b hb; omega, by have := hF b hb; omega, by have := hF b hb; omega⟩)
/-- Bytes that were laid later. -/
theorem NPair.hand_new (h : NPair w0 w g mb i Vm Vo lm lo gx mx gy my Mm Mo) {F : Nat → Prop} {d : Value} {p : Pure.Pkt} (hd : Row w' F 1 d p.data.length (u8s p.data)) (hF : ∀ b, F b → w.heap.size ≤ b ∧ b < w'.heap.size) : Hand w' g gx mx d p := by
  have hn := h.newer
  exact hd.mono (fun b hb => ⟨(hF b hb).2, by have := (hF b hb).1; omega, by have := (hF b hb).1; omega, by have := (hF b hb).1; omega⟩)
/-- What was sent. -/
theorem NPend.rows {sv : Value} {l : List Pure.Pkt} (h : NPend w0 w g mb i Vm Vo lm lo gx mx gy my Mm Mo sv l) : ∃ ps : List (Value × Pure.Pkt), ps.map Prod.snd = l ∧ PRow w (fun b => b < w.heap.size ∧ b ≠ g ∧ b ≠ gx ∧ b ≠ mx ∧ b ≠ gy ∧ b ≠ my) sv ps := by
  obtain ⟨c, Rm, Ro, Fm, Fo, h, ps, h1, _, h2⟩ := h
  refine ⟨ps, h1, h2.mono (fun b hb => ⟨hb.2, ?_, ?_, ?_, ?_, ?_⟩)⟩
  · rintro rfl; rw [h.cg] at hb; exact absurd hb.1 (by decide)
  · rintro rfl; rw [h.cgx] at hb; exact absurd hb.1 (by decide)
  · rintro rfl; rw [h.cmx] at hb; exact absurd hb.1 (by decide)
  · rintro rfl; rw [h.cgy] at hb; exact absurd hb.1 (by decide)
  · rintro rfl; rw [h.cmy] at hb; exact absurd hb.1 (by decide)
theorem NPair.ticks (h : NPair w0 w g mb i Vm Vo lm lo gx mx gy my Mm Mo) (hnk : Mm.naks ≤ 1000) {n' : Pure.Neg} {o : Pure.Said} (hE : Mm.tick = (n', o)) :
    Calls Tryz.prog 20 #[.pointer (some ⟨gx, 0, none⟩)] w fun r w' => ∃ sv, r = .returned (.agg #[sv, .bool o.up, .bool o.down, .bool o.start, .bool o.done]) ∧ NPend w0 w' g mb i Vm Vo lm lo gx mx gy my n' Mo sv o.send := by
  obtain ⟨c, Rm, Ro, Fm, Fo, h⟩ := h
  obtain ⟨f, hn, hm, hj⟩ := h.me
  have hcall := tick_any gx Rm f Mm w hn hnk
  rw [hE] at hcall
  refine hcall.mono ?_
  rintro r w' ⟨v, rfl, ho, hb⟩
  obtain ⟨sv, rfl, hp⟩ := h.turned hm hj ho hb
  exact ⟨sv, rfl, hp⟩
end
section
variable {w0 w w' : World} {g mb i gx gy : Nat} {mx my : GM} {Vm Vo : Value} {lm lo : List Pure.Pkt} {Mm Mo : Pure.Neg}
/-- It hears a packet; all blocks but its own stay. -/
theorem NPair.hearsK (h : NPair w0 w g mb i Vm Vo lm lo gx mx gy my Mm Mo) (d : Value) (p : Pure.Pkt) (hd : Hand w g gx mx d p) (hnk : Mm.naks ≤ 1000) (hrl : Mm.rules.length ≤ 1000) (hdr : Mm.dropped ≤ 1000000) {n' : Pure.Neg} {o : Pure.Said} (hE : Mm.input p = (n', o)) :
    Calls Tryz.prog 15 #[.pointer (some ⟨gx, 0, none⟩), pktV p d] w fun r w' => ∃ sv, r = .returned (.agg #[sv, .bool o.up, .bool o.down, .bool o.start, .bool o.done]) ∧ NPend w0 w' g mb i Vm Vo lm lo gx mx gy my n' Mo sv o.send ∧ Keeps (fun b => b = gx ∨ b = mx) w w' := by
  obtain ⟨c, Rm, Ro, Fm, Fo, h⟩ := h
  obtain ⟨f, hn, hm, hj⟩ := h.me
  have henv : Env13 w := h.env.below h.bel
  obtain ⟨a, ha⟩ := henv.sent
  have hcall : Calls Tryz.prog 15 #[.pointer (some ⟨gx, 0, none⟩), pktV p d] w fun r w' => ∃ v, r = .returned v ∧ Outs w w' v (Mm.input p).2 ∧ Becomes w w' gx Rm f (Mm.input p).1 := by
    by_cases hr : Mm.refuses p
    · exact input_drops _ Rm gx f Mm d p a w henv.handle ha hn (fun b hb => hb.1) hd hr hdr
    · exact input_heeds _ Rm gx f Mm d p a w henv.handle ha hn (by rw [hm]; exact hj) (fun b hb => ⟨hb.1, hb.2.2.1, by rw [hm]; exact hb.2.2.2⟩) hd hr hnk hrl
  rw [hE] at hcall
  refine hcall.mono ?_
  rintro r w' ⟨v, rfl, ho, hb⟩
  have hk : Keeps (fun b => b = gx ∨ b = mx) w w' := by
    obtain ⟨_, _, _, _, _, k⟩ := hb
    rw [hm] at k
    exact k
  obtain ⟨sv, rfl, hp⟩ := h.turned hm hj ho hb
  exact ⟨sv, rfl, hp, hk⟩
/-- A cell of a block that is neither its own nor its machine's. -/
theorem cell_two {b off : Nat} {u : Value} (k : Keeps (fun b => b = gx ∨ b = mx) w w') (h1 : b ≠ gx) (h2 : b ≠ mx) (h : w.cell? ⟨b, off, none⟩ = some u) : w'.cell? ⟨b, off, none⟩ = some u :=
  (World.cell?_of_block (w := w) (a := ⟨b, off, none⟩) (k.block b (cell_lt h) (fun e => e.elim h1 h2))).trans h
end
/-- The one packet of a list. -/
theorem pkt_read {w : World} {F : Nat → Prop} {A : Option Addr} {c : Nat} {v : Value} {p : Pure.Pkt} (h : PRow w F (.slice A 1 c) [(v, p)]) : ∃ q r A' c', A = some ⟨q, r, none⟩ ∧ v = .slice A' p.data.length c' ∧ w.cell? ⟨q, r, none⟩ = some (.int .i64 p.code) ∧ w.cell? ⟨q, r + 1, none⟩ = some (.int .i64 p.id) ∧ w.cell? ⟨q, r + 2, none⟩ = some v ∧ Row w F 1 v p.data.length (u8s p.data) := by
  obtain ⟨q, r, A', c', p', rfl, _, h1, h2, h3⟩ := h.pick 0 (by simp)
  simp only [List.getElem?_cons_zero, Option.some.injEq, Prod.mk.injEq] at h3
  obtain ⟨rfl, rfl⟩ := h3
  rw [Nat.zero_mul, Nat.add_zero] at h1
  exact ⟨q, r, A', c', rfl, rfl, h1 0 _ rfl, h1 1 _ rfl, h1 2 _ rfl, h2⟩
/-- New, of rules and no option. -/
theorem new_none (Fu : Nat → Prop) (xu : Value) (us : List (Value × Pure.Rule)) (W : World) (hu : RRow W Fu xu us) (hfu : FewRules us) (tr ti : Nat) (hm : mayBe tr ti) :
    Calls Tryz.prog 13 #[xu, .slice none 0 0, .int .i64 (tr : Int), .int .i64 (ti : Int)] W fun e w' => ∃ g f R, e = .returned (.tuple #[.pointer (some ⟨g, 0, none⟩), .int .i64 0]) ∧ NObj w' g R f (Pure.newNeg (rulesOf us) [] tr ti) ∧ W.heap.size ≤ g ∧ (W.heap.size ≤ f.gm ∧ f.gm.j = byRules g) ∧ (∀ b, R b → W.heap.size ≤ b) ∧ Keeps nobody W w' :=
  newneg_any Fu nobody xu _ us [] tr ti W hu (ORow.nil _ _) (fun _ hb => hb.elim) hfu Pure.fine_nil hm
end Go.Proofs.YtjomcffhbaplcaaGreatDoor
/- The statements' apart: does no Type come twice? -/
namespace Go.Proofs.YtjomcffhbaplcaaGreatDoor
open Go.RowKit
open Classical in
theorem apart_snoc (l : List Pure.Opt) (o : Pure.Opt) : Pure.Apart (l ++ [o]) ↔ Pure.Apart l ∧ Pure.hasType l o.1 = false := by
  unfold Pure.Apart Pure.hasType
  rw [List.pairwise_append, List.any_eq_false]
  constructor
  · rintro ⟨h1, _, h3⟩
    exact ⟨h1, fun p hp => by simpa using h3 p hp o (by simp)⟩
  · rintro ⟨h1, h2⟩
    refine ⟨h1, by simp, fun p hp q hq => ?_⟩
    obtain rfl : q = o := by simpa using hq
    simpa using h2 p hp
instance (l : List Pure.Opt) : Decidable (Pure.Apart l) := by unfold Pure.Apart; infer_instance
theorem apart_take {l : List Pure.Opt} (h : Pure.Apart l) (k : Nat) : Pure.Apart (l.take k) := List.Pairwise.sublist (List.take_sublist k l) h
theorem hasType_take {l : List Pure.Opt} {t : Int} {j k : Nat} (h : Pure.hasType (l.take j) t = true) (hjk : j ≤ k) : Pure.hasType (l.take k) t = true := by
  unfold Pure.hasType at h ⊢
  rw [List.any_eq_true] at h ⊢
  obtain ⟨q, hq, hq2⟩ := h
  have ht : (l.take k).take j = l.take j := by rw [List.take_take, Nat.min_eq_left hjk]
  rw [← ht] at hq
  exact ⟨q, List.mem_of_mem_take hq, hq2⟩
set_option maxRecDepth 100000 in
set_option maxHeartbeats 4000000 in
theorem apart_any (F : Nat → Prop) (x : Value) (ps : List (Value × Pure.Opt)) (w : World) (hx : ORow w F x ps) :
    Calls Tryz.prog 12 #[x] w fun e w' => e = .returned (.bool (decide (Pure.Apart (optsOf ps)))) ∧ ∃ n, w' = w.drewN n := by
  obtain ⟨A, c, rfl, _⟩ := hx.form
  have hm := hx.out.2.1
  unfold maxLen at hm
  have HX := Lib.hid hx
  clear hx
  go_enter Tryz.func12, Tryz.ntmps12
  go_wp2_with fail
  go_loopw [3] (fun i wr => ∃ k : Nat, k ≤ ps.length ∧ i = .int .i64 (k : Int) ∧ Pure.Apart ((optsOf ps).take k) ∧ ∃ n, wr = w.drewN n) (fun i _ => ps.length - (intOf i).toNat)
  case atStart => exact ⟨0, by omega, rfl, by simp [Pure.Apart], 0, rfl⟩
  case round =>
    obtain ⟨k, hk, rfl, hA, n, hn⟩ := hrel
    have HA := Lib.hid hA
    have HN := Lib.hid hn
    have HXr := Lib.hid (HX.out.keeps (Keeps.of_drewN hn) (fun _ _ h => h))
    clear hA hn
    by_cases hkl : k < ps.length
    · have d1 : decide ((k : Int) < (ps.length : Int)) = true := decide_eq_true (by omega)
      have d2 : decide (k < ps.length) = true := decide_eq_true hkl
      go_wp2_with fail
      clear d1 d2
      go_loopw [4] (fun i wq => ∃ j : Nat, j ≤ k ∧ i = .int .i64 (j : Int) ∧ (∀ o, (optsOf ps)[k]? = some o → Pure.hasType ((optsOf ps).take j) o.1 = false) ∧ ∃ n, wq = wr.drewN n) (fun i _ => k - (intOf i).toNat)
      case atStart => exact ⟨0, by omega, rfl, fun _ _ => rfl, 0, rfl⟩
      case round =>
        obtain ⟨j, hj, rfl, hH, m, hwq⟩ := hrel
        rename_i wq _ _ _
        have HH := Lib.hid hH
        have HM := Lib.hid hwq
        have HXq := Lib.hid (HXr.out.keeps (Keeps.of_drewN hwq) (fun _ _ h => h))
        clear hH hwq
        by_cases hjk : j < k
        · have e1 : decide ((j : Int) < (k : Int)) = true := decide_eq_true (by omega)
          have e2 : decide (j < k) = true := decide_eq_true hjk
          have i0 : (0 : Int) ≤ (j : Int) := by omega
          have i1 : (j : Int) < (ps.length : Int) := by omega
          have k0 : (0 : Int) ≤ (k : Int) := by omega
          have k1 : (k : Int) < (ps.length : Int) := by omega
          obtain ⟨p, o, A1, c1, s, la, rfl, _, x0, _, _, hpj⟩ := HXq.out.pick j (by omega)
          obtain ⟨p', o', A1', c1', s', la', hpo, _, y0, _, _, hpk⟩ := HXq.out.pick k (by omega)
          injection hpo with hpo
          injection hpo with hp1 hp2
          subst hp1 hp2
          have hoj : (optsOf ps)[j]? = some (s, la) := by rw [List.getElem?_map, hpj]; rfl
          have hok : (optsOf ps)[k]? = some (s', la') := by rw [List.getElem?_map, hpk]; rfl
          have HS := Lib.hid (show Pure.hasType ((optsOf ps).take (j + 1)) s' = decide (s = s') by
            have h := HH.out _ hok
            rw [List.take_add_one, hoj]
            unfold Pure.hasType at h ⊢
            rw [List.any_append, h]
            simp)
          have HOK := Lib.hid hok
          clear hpj hpk hoj hok
          by_cases hst : s = s'
          · subst hst
            have dq : (s == s) = true := beq_self_eq_true s
            have HD := Lib.hid (show decide (Pure.Apart (optsOf ps)) = false from decide_eq_false fun hap => by
              have h1 := (apart_snoc ((optsOf ps).take k) (s, la')).1 (by
                have := apart_take hap (k + 1)
                rwa [List.take_add_one, HOK.out] at this)
              have h2 := hasType_take (l := optsOf ps) (t := s) (j := j + 1) (k := k) (by rw [HS.out]; simp) (by omega)
              rw [h1.2] at h2
              cases h2)
            go_wp2_with fail
            go_quiet (fail)
            go_wp2
            go_ret
            exact ⟨by rw [HD.out]; rfl, _, by rw [HM.out, HN.out, World.drewN_drewN, World.drewN_drewN]⟩
          · have dq : (s == s') = false := by rw [beq_eq_false_iff_ne]; exact hst
            have HS2 := Lib.hid (show ∀ o, (optsOf ps)[k]? = some o → Pure.hasType ((optsOf ps).take (j + 1)) o.1 = false from fun o ho => by
              rw [HOK.out] at ho
              injection ho with ho
              subst ho
              rw [HS.out]
              exact decide_eq_false hst)
            go_wp2_with fail
            go_quiet (fail)
            go_wp2_with fail
            go_roundw
            case rel => exact ⟨j + 1, by omega, by go_num, HS2.out, _, by rw [HM.out, World.drewN_drewN]⟩
            case measure => simp [intOf] <;> omega
        · have hjj : j = k := by omega
          subst hjj
          have e1 : decide ((j : Int) < (j : Int)) = false := decide_eq_false (by omega)
          have e2 : decide (j < j) = false := decide_eq_false (by omega)
          have HA2 := Lib.hid (show Pure.Apart ((optsOf ps).take (j + 1)) by
            have hlt : j < (optsOf ps).length := by simpa using hkl
            have ho : (optsOf ps)[j]? = some (optsOf ps)[j] := List.getElem?_eq_getElem hlt
            rw [List.take_add_one, ho]
            exact (apart_snoc _ _).2 ⟨HA.out, HH.out _ ho⟩)
          go_wp2_with fail
          go_roundw
          case rel => exact ⟨j + 1, by omega, by go_num, HA2.out, _, by rw [HM.out, HN.out, World.drewN_drewN]⟩
          case measure => simp [intOf] <;> omega
    · have d1 : decide ((k : Int) < (ps.length : Int)) = false := decide_eq_false (by omega)
      have d2 : decide (k < ps.length) = false := decide_eq_false hkl
      have HD := Lib.hid (show decide (Pure.Apart (optsOf ps)) = true from decide_eq_true (by
        have h := HA.out
        rwa [List.take_of_length_le (by simp; omega)] at h))
      go_wp2
      go_ret
      exact ⟨by rw [HD.out]; rfl, _, HN.out⟩
end Go.Proofs.YtjomcffhbaplcaaGreatDoor
/- The document's comparing of packets; the statements' Small. -/
namespace Go.Proofs.YtjomcffhbaplcaaGreatDoor
open Go.RowKit
/-- Are options few and small? -/
def smallOpts (l : List Pure.Opt) : Prop := l.length ≤ 60 ∧ ∀ o ∈ l, o.2.length ≤ 300
instance (l : List Pure.Opt) : Decidable (smallOpts l) := by unfold smallOpts; infer_instance
set_option maxRecDepth 100000 in
set_option maxHeartbeats 2000000 in
theorem small_any (F : Nat → Prop) (x : Value) (ps : List (Value × Pure.Opt)) (w : World) (hx : ORow w F x ps) :
    Calls Tryz.prog 11 #[x] w fun e w' => e = .returned (.bool (decide (smallOpts (optsOf ps)))) ∧ w' = w := by
  obtain ⟨A, cA, rfl, hc⟩ := hx.form
  have hm := hx.out.2.1
  unfold maxLen at hm
  have HX := Lib.hid hx
  have hlen : (optsOf ps).length = ps.length := by simp
  clear hx
  go_enter Tryz.func11, Tryz.ntmps11
  by_cases h60 : 60 < ps.length
  · have HO := Lib.hid (show decide (smallOpts (optsOf ps)) = false from decide_eq_false (fun h => by have := h.1; omega))
    have d0 : decide ((60 : Int) < (ps.length : Int)) = true := decide_eq_true (by omega)
    clear hlen
    go_wp2
    go_ret
    exact ⟨by rw [HO.out]; rfl, rfl⟩
  · have d0 : decide ((60 : Int) < (ps.length : Int)) = false := decide_eq_false (by omega)
    have HLen := Lib.hid hlen
    clear hlen
    go_wp2_with fail
    go_loopw [3] (fun i wr => ∃ k : Nat, k ≤ ps.length ∧ i = .int .i64 (k : Int) ∧ (∀ o ∈ (optsOf ps).take k, o.2.length ≤ 300) ∧ wr = w) (fun i _ => ps.length - (intOf i).toNat)
    case atStart => exact ⟨0, by omega, rfl, by simp, rfl⟩
    case round =>
      obtain ⟨k, hk, rfl, hE, rfl⟩ := hrel
      have HE := Lib.hid hE
      clear hE
      by_cases hkl : k < ps.length
      · have i0 : (0 : Int) ≤ (k : Int) := by omega
        have i1 : (k : Int) < (ps.length : Int) := by omega
        obtain ⟨p, o, A1, c1, s, la, rfl, hFp, x0, x1, hra, hpa⟩ := HX.out.pick k hkl
        have hps : (optsOf ps)[k]? = some (s, la) := by rw [List.getElem?_map, hpa]; rfl
        have HPS := Lib.hid hps
        clear hra hpa hps
        by_cases hla : 300 < la.length
        · have HO := Lib.hid (show decide (smallOpts (optsOf ps)) = false from decide_eq_false (fun h => by have := h.2 _ (List.mem_of_getElem? HPS.out); dsimp only at this; omega))
          have d1 : decide ((300 : Int) < (la.length : Int)) = true := decide_eq_true (by omega)
          clear HPS
          go_wp2
          go_ret
          exact ⟨by rw [HO.out]; rfl, rfl⟩
        · have d1 : decide ((300 : Int) < (la.length : Int)) = false := decide_eq_false (by omega)
          have HE' := Lib.hid (show ∀ q ∈ (optsOf ps).take (k + 1), q.2.length ≤ 300 by
            intro q hq
            have hk2 := (List.getElem?_eq_some_iff.1 HPS.out).1
            rw [List.take_succ_eq_append_getElem hk2] at hq
            rcases List.mem_append.1 hq with h | h
            · exact HE.out q h
            · simp only [List.mem_singleton] at h
              have := HPS.out
              rw [List.getElem?_eq_getElem hk2] at this
              injection this with this
              rw [h, this]; dsimp only; omega)
          clear HPS HE
          go_wp2_with fail
          go_roundw
          case rel => exact ⟨k + 1, by omega, by go_num, HE'.out, trivial⟩
          case measure => simp [intOf]; omega
      · have hkk : k = ps.length := by omega
        have HO := Lib.hid (show decide (smallOpts (optsOf ps)) = true from decide_eq_true ⟨by rw [HLen.out]; omega, by
          have h := HE.out
          rwa [List.take_of_length_le (by rw [HLen.out]; omega)] at h⟩)
        subst hkk
        clear hkl hk HE
        go_wp2
        go_ret
        exact ⟨by rw [HO.out]; rfl, rfl⟩
end Go.Proofs.YtjomcffhbaplcaaGreatDoor
