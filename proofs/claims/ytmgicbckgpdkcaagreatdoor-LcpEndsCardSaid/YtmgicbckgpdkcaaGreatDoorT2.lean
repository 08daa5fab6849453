/- Chapter 14's statements: two links, one of which is called. -/
import Derived.Great.Walk
import Derived.Test.YtmgicbckgpdkcaaGreatDoorT1
import Derived.Test.YtmgicbckgpdkcaaGreatDoorD2
namespace Go.Proofs.YtmgicbckgpdkcaaGreatDoor
set_option maxRecDepth 100000
set_option maxHeartbeats 16000000
open _root_.Go.Lib renaming hid → xhd
open List renaming setIfInBounds_toArray → xqA, getElem_toArray → xqB, getElem_cons_succ → xqC, getElem_cons_zero → xqD, set_cons_succ → xqE, set_cons_zero → xqF
open Go.RowKit
theorem y1p {w w1 w2 : World} (k : Keeps y01 w w1) (h : Below w1.heap.size w1 w2) : Below w.heap.size w w2 :=
 ⟨h.os.trans k.os, h.tape.trans k.tape, h.output.trans k.output, Nat.le_trans k.size h.size, fun b hb => (h.block b (Nat.lt_of_lt_of_le hb k.size)).trans (k.block b hb (fun e => e))⟩
section
variable {w0 w w' : World} {gx gy : LF} {X Y : Pure.Lcp}
theorem LTwo.swap (h : LTwo w0 w gx gy X Y) : LTwo w0 w gy gx Y X := by
 obtain ⟨c, Rx, Ry, env, bel, hx, hy, c1, c2, c3, c4, c5, c6, new⟩ := h
 refine ⟨fun b => if c b = 1 then 2 else if c b = 2 then 1 else c b, Ry, Rx, env, bel, hy, hx, ?_, ?_, ?_, ?_, ?_, ?_, ?_⟩
 ·simp [c3]
 ·simp [c4]
 ·simp [c1]
 ·simp [c2]
 ·intro b hb; simp [c6 b hb]
 ·intro b hb; simp [c5 b hb]
 ·intro b hb hc
  refine new b hb (fun h0 => hc ?_)
  simp [h0]
theorem LTwo.below (h : LTwo w0 w gx gy X Y) : Below w0.heap.size w0 w := by
 obtain ⟨c, Rx, Ry, env, bel, _⟩ := h
 exact bel
theorem LTwo.env (h : LTwo w0 w gx gy X Y) : Env14 w := by
 obtain ⟨c, Rx, Ry, env, bel, _⟩ := h
 exact env.below bel
theorem LTwo.at (h : LTwo w0 w gx gy X Y) : ∃ R f, LObj w gx R f X := by
 obtain ⟨c, Rx, Ry, env, bel, ⟨f, hx⟩, _⟩ := h
 exact ⟨Rx, f, hx⟩
theorem LTwo.lt (h : LTwo w0 w gx gy X Y) : gx.g < w.heap.size ∧ gx.gm < w.heap.size := by
 obtain ⟨c, Rx, Ry, env, bel, hx, _⟩ := h
 exact ⟨hx.lt.1, hx.lt.2.1⟩
theorem LTwo.old (h : LTwo w0 w gx gy X Y) : w0.heap.size ≤ gx.g ∧ w0.heap.size ≤ gx.gm := by
 obtain ⟨c, Rx, Ry, env, bel, hx, hy, c1, c2, c3, c4, c5, c6, new⟩ := h
 exact ⟨new _ hx.lt.1 (by rw [c1]; decide), new _ hx.lt.2.1 (by rw [c2]; decide)⟩
theorem LTwo.quiet (h : LTwo w0 w gx gy X Y) (k : Keeps y01 w w') : LTwo w0 w' gx gy X Y := by
 obtain ⟨c, Rx, Ry, env, bel, hx, hy, c1, c2, c3, c4, c5, c6, new⟩ := h
 have lx := hx.lt
 have ly := hy.lt
 have hc : ∀ b, b < w.heap.size → (if w.heap.size ≤ b then 0 else c b) = c b := fun b hb => if_neg (by omega)
 refine ⟨fun b => if w.heap.size ≤ b then 0 else c b, Rx, Ry, env, Below.quiet bel k bel.size, hx.keeps k (fun h => h) (fun h => h) (fun _ _ h => h), hy.keeps k (fun h => h) (fun h => h) (fun _ _ h => h), ?_, ?_, ?_, ?_, ?_, ?_, ?_⟩
 ·(try dsimp only); rw [hc _ lx.1]; exact c1
 ·(try dsimp only); rw [hc _ lx.2.1]; exact c2
 ·(try dsimp only); rw [hc _ ly.1]; exact c3
 ·(try dsimp only); rw [hc _ ly.2.1]; exact c4
 ·intro b hb; (try dsimp only); rw [hc _ (lx.2.2 b hb)]; exact c5 b hb
 ·intro b hb; (try dsimp only); rw [hc _ (ly.2.2 b hb)]; exact c6 b hb
 ·intro b hb hcb
  rcases Nat.lt_or_ge b w.heap.size with hl | hl
  ·try dsimp only at hcb
   rw [hc b hl] at hcb
   exact new b hl hcb
  ·exact Nat.le_trans bel.size hl
def y3h (w0 w : World) (gx gy : LF) (X' Y : Pure.Lcp) (o : Pure.LSaid) (r : Ending) (w' : World) : Prop :=
 ∃ sv, ∃ ps : List (Value × Pure.Pkt), r = .returned (.agg #[sv, .bool o.said.up, .bool o.said.down, .bool o.said.start, .bool o.said.done, .int .i64 (o.reject : Int)]) ∧ ps.map Prod.snd = o.said.send ∧ PRow w' (fun b => w.heap.size ≤ b ∧ b < w'.heap.size) sv ps ∧ LTwo w0 w' gx gy X' Y ∧ Keeps (fun b => b = gx.g ∨ b = gx.gm) w w'
theorem LTwo.call {X' : Pure.Lcp} {o : Pure.LSaid} {fn : Nat} {args : Array Value} (h : LTwo w0 w gx gy X Y) (hcall : ∀ R f, LObj w gx R f X → Calls Tryz.prog fn args w fun r w' => ∃ v, r = .returned v ∧ y3g w w' v o ∧ y1k w w' gx R X') : Calls Tryz.prog fn args w fun r w' => y3h w0 w gx gy X' Y o r w' := by
 obtain ⟨c, Rx, Ry, env, bel, ⟨fx, hx⟩, hy, c1, c2, c3, c4, c5, c6, new⟩ := h
 refine (hcall Rx fx hx).mono ?_
 rintro r w' ⟨v, rfl, ⟨sv, ps, rfl, hp, he, _⟩, f', R', hn, hsub, k⟩
 have hxl : LAt w gx Rx X := ⟨fx, hx⟩
 have lx := hxl.lt
 have ly := hy.lt
 have hc : ∀ b, b < w.heap.size → (if w.heap.size ≤ b then 0 else c b) = c b := fun b hb => if_neg (by omega)
 have hS : ∀ b, c b ≠ 1 → ¬ (b = gx.g ∨ b = gx.gm) := fun b hb e => by
  rcases e with rfl | rfl
  ·exact hb c1
  ·exact hb c2
 have bel' : Below w0.heap.size w0 w' := ⟨k.os.trans bel.os, k.tape.trans bel.tape, k.output.trans bel.output, Nat.le_trans bel.size k.size, fun b hb => (k.block b (Nat.lt_of_lt_of_le hb bel.size) (fun e => by
  rcases e with e | e
  ·have := new b (Nat.lt_of_lt_of_le hb bel.size) (by rw [e, c1]; decide); omega
  ·have := new b (Nat.lt_of_lt_of_le hb bel.size) (by rw [e, c2]; decide); omega)).trans (bel.block b hb)⟩
 refine ⟨sv, ps, rfl, he, hp, ⟨fun b => if w.heap.size ≤ b then 0 else c b, R', Ry, env, bel', ⟨f', hn⟩, hy.keeps k (hS _ (by rw [c3]; decide)) (hS _ (by rw [c4]; decide)) (fun b hb => hS b (by rw [c6 b hb]; decide)), ?_, ?_, ?_, ?_, ?_, ?_, ?_⟩, k⟩
 ·(try dsimp only); rw [hc _ lx.1]; exact c1
 ·(try dsimp only); rw [hc _ lx.2.1]; exact c2
 ·(try dsimp only); rw [hc _ ly.1]; exact c3
 ·(try dsimp only); rw [hc _ ly.2.1]; exact c4
 ·intro b hb
  try dsimp only
  rcases Nat.lt_or_ge b w.heap.size with hl | hl
  ·rw [hc b hl]
   rcases hb with rfl | hb
   ·exact c5 _ (.inl rfl)
   ·rcases hsub b hb with h1 | h1
    ·exact c5 b (.inr h1)
    ·omega
  ·exact if_pos hl
 ·intro b hb; (try dsimp only); rw [hc _ (ly.2.2 b hb)]; exact c6 b hb
 ·intro b hb hcb
  rcases Nat.lt_or_ge b w.heap.size with hl | hl
  ·try dsimp only at hcb
   rw [hc b hl] at hcb
   exact new b hl hcb
  ·exact Nat.le_trans bel.size hl
theorem LTwo.acts (h : LTwo w0 w gx gy X Y) (e : Int) (he : e = 0 ∨ e = 1 ∨ e = 2 ∨ e = 3) (hnk : X.n.naks ≤ 1000) {X' : Pure.Lcp} {o : Pure.LSaid} (hE : X.act e = (X', o)) :
  Calls Tryz.prog 28 #[.pointer (some ⟨gx.l, 0, none⟩), .int .i64 e] w fun r w' => y3h w0 w gx gy X' Y o r w' :=
 h.call fun R f hx => by have := y56 hx e he hnk; rw [hE] at this; exact this
theorem LTwo.hears (h : LTwo w0 w gx gy X Y) (F : Nat → Prop) (p : Pure.Pkt) (d : Value) (hF : ∀ b, F b → b < w.heap.size ∧ b ≠ gx.g ∧ b ≠ gx.gm) (hd : Row w F 1 d p.data.length (u8s p.data)) (hnk : X.n.naks ≤ 1000) (hdr : X.n.dropped ≤ 1000000) (hL : p.data.length ≤ 1000000) {X' : Pure.Lcp} {o : Pure.LSaid} (hE : X.input p = (X', o)) :
  Calls Tryz.prog 30 #[.pointer (some ⟨gx.l, 0, none⟩), pktV p d] w fun r w' => y3h w0 w gx gy X' Y o r w' :=
 h.call fun R f hx => by
  obtain ⟨a, ha⟩ := h.env.sent
  have := y4q hx F p d a h.env.env.hd ha hF hd hnk hdr hL
  rw [hE] at this
  exact this
theorem LTwo.state (h : LTwo w0 w gx gy X Y) : Calls Tryz.prog 40 #[.pointer (some ⟨gx.l, 0, none⟩)] w fun e w' => e = .returned (.int .i64 (X.n.m.state : Nat)) ∧ w = w' := by
 obtain ⟨R, f, h⟩ := h.at
 exact y2l h
theorem yan {w : World} {F : Nat → Prop} {A : Option Addr} {c : Nat} {v : Value} {p : Pure.Pkt} (h : PRow w F (.slice A 1 c) [(v, p)]) : ∃ q r A' c', A = some ⟨q, r, none⟩ ∧ v = .slice A' p.data.length c' ∧ w.cell? ⟨q, r, none⟩ = some (.int .i64 p.code) ∧ w.cell? ⟨q, r + 1, none⟩ = some (.int .i64 p.id) ∧ w.cell? ⟨q, r + 2, none⟩ = some v ∧ Row w F 1 v p.data.length (u8s p.data) := by
 obtain ⟨q, r, A', c', p', rfl, _, h1, h2, h3⟩ := h.pick 0 (by simp)
 simp only [List.getElem?_cons_zero, Option.some.injEq, Prod.mk.injEq] at h3
 obtain ⟨rfl, rfl⟩ := h3
 rw [Nat.zero_mul, Nat.add_zero] at h1
 exact ⟨q, r, A', c', rfl, rfl, h1 0 _ rfl, h1 1 _ rfl, h1 2 _ rfl, h2⟩
theorem PRow.place {w : World} {F : Nat → Prop} {q r c : Nat} {v : Value} {p : Pure.Pkt} (h : PRow w F (.slice (some ⟨q, r, none⟩) 1 c) [(v, p)]) : F q := by
 obtain ⟨_, _, A9, c9, e9, _, _, h9⟩ := h.out
 obtain ⟨b9, o9, e9', hF9, _⟩ := h9 (by simp)
 injection e9 with e9 _ _
 rw [e9'] at e9
 injection e9 with e9
 injection e9 with e9 _
 rw [e9]
 exact hF9
def Sent1 (w w' : World) (sv : Value) (p : Pure.Pkt) : Prop :=
 ∃ q r c A' c', sv = .slice (some ⟨q, r, none⟩) 1 c ∧ w.heap.size ≤ q ∧ w'.cell? ⟨q, r, none⟩ = some (.int .i64 p.code) ∧ w'.cell? ⟨q, r + 1, none⟩ = some (.int .i64 p.id) ∧ w'.cell? ⟨q, r + 2, none⟩ = some (.slice A' p.data.length c') ∧ Row w' (fun b => w.heap.size ≤ b ∧ b < w'.heap.size) 1 (.slice A' p.data.length c') p.data.length (u8s p.data)
theorem y57 {w w' : World} {sv : Value} {ps : List (Value × Pure.Pkt)} {p : Pure.Pkt} (h : PRow w' (fun b => w.heap.size ≤ b ∧ b < w'.heap.size) sv ps) (e : ps.map Prod.snd = [p]) : Sent1 w w' sv p := by
 obtain ⟨v, rfl⟩ := yah e
 obtain ⟨_, _, X, c, rfl, _⟩ := h.out
 obtain ⟨q, r, A', c', rfl, rfl, h1, h2, h3, h4⟩ := yan h
 exact ⟨q, r, c, A', c', rfl, h.place.1, h1, h2, h3, h4⟩
theorem y5r {w w' : World} {sv : Value} {ps : List (Value × Pure.Pkt)} (h : PRow w' (fun b => w.heap.size ≤ b ∧ b < w'.heap.size) sv ps) (e : ps.map Prod.snd = []) : ∃ A c, sv = .slice A 0 c := by
 have : ps = [] := by simpa using e
 subst this
 obtain ⟨_, _, X, c, rfl, _⟩ := h.out
 exact ⟨X, c, rfl⟩
theorem y0g.two {g mb : Nat} {Vm Vo : Value} {lm lo : List Pure.Pkt} (h : y0g w0 w g mb 0 Vm Vo lm lo gx gy X Y) : LTwo w0 w gx gy X Y := by
 obtain ⟨c, Rm, Ro, Fm, Fo, h⟩ := h
 exact ⟨c, Rm, Ro, h.env, h.bel, h.me, h.ot, h.cgx, h.cmx, h.cgy, h.cmy, h.crm, h.cro, h.new⟩
end
theorem y4c (x : Nat) (hx : x < 2 ^ 64) : IntKind.i64.wrap (x : Int) % 2 = ((x % 2 : Nat) : Int) := by
 unfold IntKind.wrap
 have h1 : IntKind.i64.bits = 64 := rfl
 have h2 : IntKind.i64.signed = true := rfl
 rw [h1, h2]
 have h3 : ((x : Int) % (2 ^ 64 : Int)) = (x : Int) := Int.emod_eq_of_lt (by omega) (by omega)
 dsimp only
 rw [h3]
 split
 ·show ((x : Int) - 18446744073709551616) % 2 = _
  omega
 ·omega
theorem y8y (n : Int) : bits .or .i64 n 1 % 2 = 1 := by
 have key : (BitVec.ofInt 64 n ||| BitVec.ofInt 64 1).toNat % 2 = 1 := by
  rw [BitVec.toNat_or]
  have h1 : (BitVec.ofInt 64 1).toNat = 1 := by decide
  rw [h1]
  simp
 have hlt := (BitVec.ofInt 64 n ||| BitVec.ofInt 64 1).isLt
 show IntKind.i64.wrap ((BitVec.ofInt 64 n ||| BitVec.ofInt 64 1).toNat : Nat) % 2 = 1
 rw [y4c _ hlt, key]
 rfl
theorem y4i (n : Int) : bits .andNot .i64 n 1 % 2 = 0 := by
 have key : (BitVec.ofInt 64 n &&& ~~~ BitVec.ofInt 64 1).toNat % 2 = 0 := by
  rw [BitVec.toNat_and]
  have h1 : (~~~ BitVec.ofInt 64 1).toNat = 18446744073709551614 := by decide
  rw [h1]
  have := Nat.testBit_and (BitVec.ofInt 64 n).toNat 18446744073709551614 0
  simp only [Nat.testBit_zero] at this
  have h2 : (decide (18446744073709551614 % 2 = 1)) = false := by decide
  rw [h2, Bool.and_false, decide_eq_false_iff_not] at this
  omega
 have hlt := (BitVec.ofInt 64 n &&& ~~~ BitVec.ofInt 64 1).isLt
 show IntKind.i64.wrap ((BitVec.ofInt 64 n &&& ~~~ BitVec.ofInt 64 1).toNat : Nat) % 2 = 0
 rw [y4c _ hlt, key]
 rfl
theorem y1m {P : Program} {ops : Array Oper} {rest : List Oper} {o : Oper} {a : Act} {w : World} {Q : Exit → Act → World → Prop} (hg : o.guard = none) (d : Option Tmp) (hd : o.dst = d)
  (f : FuncId) (args : Array Value) (hrun : (execOp a.eval o).run P w = .ok (.enter f args) w) {Φ : Ending → World → Prop} (hc : Calls P f args w Φ)
  (h : ∀ e w', Φ e w' → ∃ v, e = .returned v ∧ wpList P ops Q rest (a.put d v) w') : wpList P ops Q (o :: rest) a w := by
 subst hd
 refine wpList_plain hg fun K hK => ?_
 unfold Oper.wp
 rw [hrun, Oper.upon_enter]
 refine hc.mono fun e w'' hh => ?_
 obtain ⟨v, rfl, h2⟩ := h e w'' hh
 exact hK _ _ h2
abbrev y0z : Array Value := (y0d ⟨false, [], [], 0, false, false, 0, 0, false, 0, false, false, false, false, false, 0, 0, 0⟩ ByteArray.empty ByteArray.empty).toArray
theorem y19 (ρ : Operand → Value) (d : Option Tmp) (ty : TypeId) (ps : String) (af : Array _) (w : World) :
  (execOp ρ { dst := d, op := .alloc 25, type := ty, pos := ps, after := af, guard := none }).run Tryz.prog w = .ok (.value (.pointer (some ⟨w.heap.size, 0, none⟩))) (w.alloc (.cells y0z 25)) := by
 kernel_rfl
theorem y80 (n : Int) (w : World) (env : Env14 w) :
  Calls Tryz.prog 47 #[.int .i64 n] w fun e w' => ∃ gx gy a b, e = .returned (.tuple #[.pointer (some ⟨gx.l, 0, none⟩), .pointer (some ⟨gy.l, 0, none⟩)]) ∧ LTwo w w' gx gy (Pure.linkAt a b 11 12 4 2 4 4) (Pure.linkAt b a 12 11 4 2 4 4) ∧ MadeIs a true 4 ∧ MadeIs b false 4 := by
 have HENV := xhd env
 have HMA := xhd (y2m (bits .or .i64 n 1) 3 w)
 have HI := xhd y24
 clear env
 go_enter Tryz.func47, Tryz.ntmps47
 go_upto_region 1 with fail
 refine wp_region_list ?_
 refine Go.Great.wpList_runTo rfl (some 16) rfl (.int .i64 n) w rfl ?_
 refine Go.Great.wpList_runTo rfl (some 17) rfl (.int .i64 (bits .or .i64 n 1)) w (by kernel_rfl) ?_
 refine y1m rfl (some 18) rfl 13 #[.int .i64 (bits .or .i64 n 1), .int .i64 3] (by kernel_rfl) HMA.out ?_
 rintro e w1 ⟨a, rfl, ha, hk⟩
 refine ⟨_, rfl, ?_⟩
 rw [y8y] at ha
 have HAA := xhd (show MadeIs a true 4 from ha)
 have HK1 := xhd hk
 have HMB := xhd (y2m (bits .andNot .i64 n 1) 3 w1)
 clear ha hk HMA
 refine Go.Great.wpList_runTo rfl (some 19) rfl (.int .i64 n) w1 rfl ?_
 refine Go.Great.wpList_runTo rfl (some 20) rfl (.int .i64 (bits .andNot .i64 n 1)) w1 (by kernel_rfl) ?_
 refine y1m rfl (some 21) rfl 13 #[.int .i64 (bits .andNot .i64 n 1), .int .i64 3] (by kernel_rfl) HMB.out ?_
 rintro e w2 ⟨b, rfl, hb, hk⟩
 refine ⟨_, rfl, ?_⟩
 rw [y4i] at hb
 have HBB := xhd (show MadeIs b false 4 from hb)
 have HK2 := xhd (HK1.out.trans hk)
 clear hb hk HMB HK1
 obtain ⟨ab, hab⟩ : ∃ q, q = w2.heap.size := ⟨_, rfl⟩
 obtain ⟨bb, hbb⟩ : ∃ q, q = (w2.alloc (.cells y0z 25)).heap.size := ⟨_, rfl⟩
 have hne : bb ≠ ab := by rw [hbb, hab]; simp
 refine Go.Great.wpList_runTo rfl (some 4) rfl _ _ (y19 _ _ _ _ _ _) ?_
 refine Go.Great.wpList_runTo rfl (some 5) rfl _ _ (y19 _ _ _ _ _ _) ?_
 rw [← hab, ← hbb]
 obtain ⟨w3, hw3⟩ : ∃ q, q = (w2.alloc (.cells y0z 25)).alloc (.cells y0z 25) := ⟨_, rfl⟩
 rw [← hw3]
 have za : Blk w3 ab 25 y0z := by rw [hw3, hab]; exact (Blk.new w2 _ _).alloc _
 have zb : Blk w3 bb 25 y0z := by rw [hw3, hbb]; exact Blk.new _ _ _
 have k3 : Keeps y01 w2 w3 := by rw [hw3]; exact ((Keeps.refl _ w2).alloc _).alloc _
 obtain ⟨w4, hw4⟩ : ∃ q, q = w3.setRow ab (y0d a nmN scS).toArray := ⟨_, rfl⟩
 have ba : Blk w4 ab 25 (y0d a nmN scS).toArray := by rw [hw4]; exact za.rowSet _
 have k4 : Keeps (only ab) w3 w4 := by rw [hw4]; exact (Keeps.refl (only ab) w3).rowSet (fun _ => rfl) _
 have zb4 := zb.keeps k4 (fun e => by have e : bb = ab := e; exact hne e)
 obtain ⟨w5, hw5⟩ : ∃ q, q = w4.setRow bb (y0d b nmN scS).toArray := ⟨_, rfl⟩
 have bb5 : Blk w5 bb 25 (y0d b nmN scS).toArray := by rw [hw5]; exact zb4.rowSet _
 have k5 : Keeps (only bb) w4 w5 := by rw [hw5]; exact (Keeps.refl (only bb) w4).rowSet (fun _ => rfl) _
 have ba5 := ba.keeps k5 (fun e => by have e : ab = bb := e; exact hne e.symm)
 have HBA := xhd ba5
 have HBB5 := xhd bb5
 have HK5 := xhd (show Keeps y01 w2 w5 from (k3.trans' k4 (fun i hi hl => by have e : i = ab := hi; omega)).trans' k5 (fun i hi hl => by have e : i = bb := hi; have := hbb; simp at this; omega))
 have HNE := xhd hne
 have HABO := xhd (show w2.heap.size ≤ ab ∧ w2.heap.size ≤ bb from ⟨Nat.le_of_eq hab.symm, by rw [hbb]; simp⟩)
 simp only [Act.put, xqA, xqE, xqF]
 refine wpList_store_row rfl 25 (.tmp 4) (.tmp 18) rfl ab _ rfl rfl 25 _ za (by rw [HI.out]; rfl) rfl (by rw [List.all_toArray]; rfl) ?_
 rw [← hw4]
 refine wpList_store_row rfl 25 (.tmp 5) (.tmp 21) rfl bb _ rfl rfl 25 _ zb4 (by rw [HI.out]; rfl) rfl (by rw [List.all_toArray]; rfl) ?_
 rw [← hw5]
 clear hab hbb hne hw3 za zb k3 hw4 ba k4 zb4 hw5 bb5 k5 ba5
 go_upto_region 2 with fail
 have HKA := xhd (HK2.out.trans HK5.out)
 clear HK2 HK5 HNE HABO
 have HNX := xhd (y1u a true 4 HAA.out (by decide) 11 (by decide) w5 ((HENV.out.keeps HKA.out).env))
 refine wp_region_list ?_
 refine wpList_load_mid rfl 25 (.tmp 4) rfl ab 0 rfl (y0d a nmN scS) _ (fun j v hv => by rw [Nat.zero_add, HBA.out.cell, List.getElem?_toArray]; exact hv) Tryz.underlying25 rfl HI.out ?_
 go_wp2_with fail
 refine HNX.out.mono ?_
 rintro e w6 ⟨gx, fx, Rx, rfl, hx, x0, x1, x2, x3, hk6⟩
 have HX := xhd (And.intro hx (And.intro x0 (And.intro x1 x2)))
 have HBB6 := xhd (HBB5.out.keeps hk6 (fun e => e))
 have HK6 := xhd hk6
 have HNY := xhd (y1u b false 4 HBB.out (by decide) 12 (by decide) w6 ((HENV.out.keeps (HKA.out.trans hk6)).env))
 clear hx x0 x1 x2 x3 hk6 HNX HBA HBB5
 go_upto_region 3 with fail
 refine wp_region_list ?_
 refine wpList_load_mid rfl 25 (.tmp 5) rfl bb 0 rfl (y0d b nmN scS) _ (fun j v hv => by rw [Nat.zero_add, HBB6.out.cell, List.getElem?_toArray]; exact hv) Tryz.underlying25 rfl HI.out ?_
 go_wp2_with fail
 refine HNY.out.mono ?_
 rintro e w7 ⟨gy, fy, Ry, rfl, hy, y0, y1, y2, y3, hk7⟩
 have hTN := y72 HENV.out HKA.out.to_below HK6.out HX.out.1 HX.out.2.1 HX.out.2.2.1 HX.out.2.2.2 (Keeps.refl _ w6) hk7 hy y0 y1 y2 y3 (Keeps.refl _ w7)
 clear hy y0 y1 y2 y3 hk7 HNY HX HKA HK6 HBB6
 have HP := xhd (y4w hTN)
 obtain ⟨X1, Y1, hbeg⟩ := y6u a b (11) (12)
 have h0 : Pure.duoP a b 11 12 4 2 4 2 0 [⟨1, 1, (Pure.options (b.ask 12)).2⟩] [⟨1, 1, (Pure.options (a.ask 11)).2⟩] ⟨a, Pure.begun a.rules (a.ask 11) a.tries.toNat a.timeout.toNat⟩ ⟨b, Pure.begun b.rules (b.ask 12) b.tries.toNat b.timeout.toNat⟩ := by rw [HAA.out.tries, HBB.out.tries, HAA.out.timeout, HBB.out.timeout]; exact Pure.duo_start 4 2 4 2
 have hE : ∀ k X Y, Pure.duoP a b 11 12 4 2 4 2 k [] [] X Y → (X = Pure.linkAt a b 11 12 4 2 4 4 ∧ Y = Pure.linkAt b a 12 11 4 2 4 4) := fun k X Y h => Pure.duo_done h
 have hT := Pure.duo_talks (a := a) (b := b) (ma := 11) (mb := 12) (HAA.out.fine (by decide)) (HBB.out.fine (by decide)) (by rw [HAA.out.server, HBB.out.server]; rfl) (by decide) (by decide) (by decide) (by decide) (by decide) (t := 4) (t' := 4) (by decide) (by decide) 2 2
 obtain ⟨P, hPP⟩ : ∃ P, P = Pure.duoP a b 11 12 4 2 4 2 := ⟨_, rfl⟩
 rw [← hPP] at h0 hE hT
 obtain ⟨XX, hXX⟩ : ∃ q, q = Pure.newLcp a (11) := ⟨_, rfl⟩
 obtain ⟨YY, hYY⟩ : ∃ q, q = Pure.newLcp b (12) := ⟨_, rfl⟩
 rw [← hXX, ← hYY] at HP hbeg
 obtain ⟨X2, hX2⟩ : ∃ q : Pure.Lcp, q = ⟨a, Pure.begun a.rules (a.ask (11)) a.tries.toNat a.timeout.toNat⟩ := ⟨_, rfl⟩
 obtain ⟨Y2, hY2⟩ : ∃ q : Pure.Lcp, q = ⟨b, Pure.begun b.rules (b.ask (12)) b.tries.toNat b.timeout.toNat⟩ := ⟨_, rfl⟩
 rw [← hX2, ← hY2] at hbeg h0
 obtain ⟨sx, hsx⟩ : ∃ q, q = [(⟨1, 1, (Pure.options (a.ask (11))).2⟩ : Pure.Pkt)] := ⟨_, rfl⟩
 obtain ⟨sy, hsy⟩ : ∃ q, q = [(⟨1, 1, (Pure.options (b.ask (12))).2⟩ : Pure.Pkt)] := ⟨_, rfl⟩
 obtain ⟨ox2, hox2⟩ : ∃ q : Pure.LSaid, q = .of (Pure.sends [⟨1, 1, (Pure.options (a.ask (11))).2⟩]) := ⟨_, rfl⟩
 obtain ⟨oy2, hoy2⟩ : ∃ q : Pure.LSaid, q = .of (Pure.sends [⟨1, 1, (Pure.options (b.ask (12))).2⟩]) := ⟨_, rfl⟩
 obtain ⟨ox1, hox1⟩ : ∃ q, q = Pure.LSaid.of Pure.mute := ⟨_, rfl⟩
 obtain ⟨oy1, hoy1⟩ : ∃ q, q = Pure.LSaid.of Pure.mute := ⟨_, rfl⟩
 have hbeg2 : y8f XX X1 X2 YY Y1 Y2 ox1 ox2 oy1 oy2 sx sy := by rw [hox1, hoy1, hox2, hoy2, hsx, hsy]; exact hbeg
 rw [← hsx, ← hsy] at h0
 have HA := xhd (show (XX.n.naks ≤ 1000 ∧ X1.n.naks ≤ 1000 ∧ XX.act 0 = (X1, ox1) ∧ X1.act 2 = (X2, ox2) ∧ sx = ox1.said.send ++ ox2.said.send ∧ ox1.said.send.length ≤ 10) ∧ (YY.n.naks ≤ 1000 ∧ Y1.n.naks ≤ 1000 ∧ YY.act 0 = (Y1, oy1) ∧ Y1.act 2 = (Y2, oy2) ∧ sy = oy1.said.send ++ oy2.said.send ∧ oy1.said.send.length ≤ 10) from hbeg2)
 have HQ0 := xhd h0
 have HT := xhd hT
 have HE := xhd hE
 clear hXX hYY hX2 hY2 hsx hsy hox1 hoy1 hox2 hoy2 hbeg hbeg2 h0 hT hE hPP hTN
 have hmake := y5y
 go_wp2_with fail
 clear hmake
 generalize (w7.alloc (.cells #[.pointer (some ⟨gx.l, 0, none⟩), .pointer (some ⟨gy.l, 0, none⟩)] 49)).alloc (.cells #[.slice none 0 0, .slice none 0 0] 57) = W at HP ⊢
 generalize w7.heap.size + 1 = g at HP ⊢
 generalize w7.heap.size = mb at HP ⊢
 go_loopw [12] (fun i wr => ∃ k : Nat, k ≤ 2 ∧ i = .int .i64 (k : Int) ∧ ∃ V0 V1, y0g w wr g mb 0 V0 V1 (if k = 2 then sy else []) (if 1 ≤ k then sx else []) gx gy (if 1 ≤ k then X2 else XX) (if k = 2 then Y2 else YY)) (fun i _ => 2 - (intOf i).toNat)
 case atStart => exact ⟨0, by omega, rfl, _, _, HP.out⟩
 case round =>
  obtain ⟨k, hk, rfl, V0, V1, hP⟩ := hrel
  have HP := xhd hP
  clear hP
  by_cases hk2 : k < 2
  ·have HD : ∃ Vm Vo lm hx ox Z Z1 o1 Z2 o2 sz Mo, Hid (y0g w wr g mb k Vm Vo lm [] hx ox Z Mo ∧ (Z.n.naks ≤ 1000 ∧ Z1.n.naks ≤ 1000 ∧ Z.act 0 = (Z1, o1) ∧ Z1.act 2 = (Z2, o2) ∧ sz = o1.said.send ++ o2.said.send ∧ o1.said.send.length ≤ 10) ∧ ∀ W' Vo', y0g w W' g mb k Vm Vo' lm sz hx ox Z2 Mo → ∃ V0 V1, y0g w W' g mb 0 V0 V1 (if k + 1 = 2 then sy else []) (if 1 ≤ k + 1 then sx else []) gx gy (if 1 ≤ k + 1 then X2 else XX) (if k + 1 = 2 then Y2 else YY)) := by
    obtain rfl | rfl : k = 0 ∨ k = 1 := by omega
    ·exact ⟨V0, V1, [], gx, gy, XX, X1, ox1, X2, ox2, sx, YY, xhd ⟨HP.out, HA.out.1, fun W' Vo' h => ⟨_, _, h⟩⟩⟩
    ·exact ⟨V1, V0, sx, gy, gx, YY, Y1, oy1, Y2, oy2, sy, X2, xhd ⟨HP.out.swap, HA.out.2, fun W' Vo' h => ⟨_, _, h.swap⟩⟩⟩
   obtain ⟨Vm, Vo, lm, hx, ox, Z, Z1, o1, Z2, o2, sz, Mo, HD⟩ := HD
   have HQ := xhd HD.out.1
   clear HP
   obtain ⟨j, hj⟩ : ∃ j, j = 1 - k := ⟨_, rfl⟩
   have hj1 : j ≤ 1 := by omega
   have k0 : (0 : Int) ≤ (k : Int) := by omega
   have k1 : (k : Int) < 2 := by omega
   have j0 : (0 : Int) ≤ (j : Int) := by omega
   have j1 : (j : Int) < 2 := by omega
   have e1 : (1 : Int) - (k : Int) = (j : Int) := by omega
   have lw : wrap64 (j : Int) = (j : Int) := IntWalk.wrap64_in _ (by omega)
   have lw2 : IntKind.i64.wrap (j : Int) = (j : Int) := IntWalk.i64_in _ (by omega)
   have lw3 : IntKind.i64.wrap (k : Int) = (k : Int) := IntWalk.i64_in _ (by omega)
   have d0 : decide ((k : Int) < 2) = true := decide_eq_true k1
   have HJ := xhd hj
   clear hj
   obtain ⟨VO8, hvo⟩ : ∃ v, v = Vo := ⟨_, rfl⟩
   have co : wr.cell? ⟨g, j, none⟩ = some VO8 := by rw [hvo, HJ.out]; exact HQ.out.other
   have cm := HQ.out.neg
   obtain ⟨AO, cO, hO⟩ := HQ.out.swap.form
   rw [hvo.trans hO] at co
   have HVO := xhd (show Vo = .slice AO 0 cO from hO)
   rw [hO] at HQ
   clear hvo hO VO8
   have hsent := y3a
   have hlsent := y2p
   have HKZ0 := xhd (Keeps.refl y01 wr)
   go_wp2_with fail
   refine y0b (fun w' => w'.cell? ⟨g, j, none⟩ = some (.slice AO 0 cO) ∧ w'.cell? ⟨mb, k, none⟩ = some (.pointer (some ⟨hx.l, 0, none⟩))) 17 18 rfl (by kernel_rfl) ⟨co, cm⟩ (fun hHeld => ?_)
   have HSW := hHeld
   clear hHeld
   have HK0d := xhd (HKZ0.out.drew)
   refine y00 (i := 0) rfl (by kernel_rfl) (fun _ _ _ h => h) (Or.inl ⟨by rfl, by intro w hSw; obtain ⟨s0, s1⟩ := hSw; go_simp; try with_reducible rfl⟩) HSW.out ?_
   simp only [Act.put, xqA, xqB, xqD, xqE, xqF]
   refine y00 (i := 1) rfl (by kernel_rfl) (fun _ _ _ h => h) (Or.inl ⟨by rfl, by intro w hSw; obtain ⟨s0, s1⟩ := hSw; go_simp; try with_reducible rfl⟩) HSW.out ?_
   simp only [Act.put, xqA, xqB, xqC, xqD, xqE, xqF]
   refine y00 (i := 2) rfl (by kernel_rfl) (fun _ _ _ h => h) (Or.inl ⟨by rfl, by intro w hSw; obtain ⟨s0, s1⟩ := hSw; go_simp; try with_reducible rfl⟩) HSW.out ?_
   simp only [Act.put, xqA, xqB, xqC, xqD, xqE, xqF]
   refine y00 (i := 3) rfl (by kernel_rfl) (fun _ _ _ h => h) (Or.inl ⟨by rfl, by intro w hSw; obtain ⟨s0, s1⟩ := hSw; go_simp; try with_reducible rfl⟩) HSW.out ?_
   simp only [Act.put, xqA, xqB, xqC, xqD, xqE, xqF]
   refine y00 (i := 4) rfl (by kernel_rfl) (fun _ _ _ h => h) (Or.inl ⟨by rfl, by intro w hSw; obtain ⟨s0, s1⟩ := hSw; go_simp; try with_reducible rfl⟩) HSW.out ?_
   simp only [Act.put, xqA, xqB, xqC, xqD, xqE, xqF]
   refine y00 (i := 5) rfl (by kernel_rfl) (fun _ _ _ h => h) (Or.inl ⟨by rfl, by intro w hSw; obtain ⟨s0, s1⟩ := hSw; go_simp; try with_reducible rfl⟩) HSW.out ?_
   simp only [Act.put, xqA, xqB, xqC, xqD, xqE, xqF]
   refine y00 (i := 6) rfl (by kernel_rfl) (fun _ _ _ h => h) (Or.inl ⟨by rfl, by intro w hSw; obtain ⟨s0, s1⟩ := hSw; go_simp; try with_reducible rfl⟩) HSW.out ?_
   simp only [Act.put, xqA, xqB, xqC, xqD, xqE, xqF]
   refine y00 (i := 7) rfl (by kernel_rfl) (fun _ _ _ h => h) (Or.inl ⟨by rfl, by intro w hSw; obtain ⟨s0, s1⟩ := hSw; go_simp; try with_reducible rfl⟩) HSW.out ?_
   simp only [Act.put, xqA, xqB, xqC, xqD, xqE, xqF]
   refine y00 (i := 8) rfl (by kernel_rfl) (fun _ _ _ h => h) (Or.inl ⟨by rfl, by intro w hSw; obtain ⟨s0, s1⟩ := hSw; go_simp; try with_reducible rfl⟩) HSW.out ?_
   simp only [Act.put, xqA, xqB, xqC, xqD, xqE, xqF]
   refine y00 (i := 9) rfl (by kernel_rfl) (fun _ _ _ h => h) (Or.inl ⟨by rfl, by intro w hSw; obtain ⟨s0, s1⟩ := hSw; go_simp; try with_reducible rfl⟩) HSW.out ?_
   simp only [Act.put, xqA, xqB, xqC, xqD, xqE, xqF]
   refine y00 (i := 10) rfl (by kernel_rfl) (fun _ _ _ h => h) (Or.inl ⟨by rfl, by intro w hSw; obtain ⟨s0, s1⟩ := hSw; go_simp; try with_reducible rfl⟩) HSW.out ?_
   simp only [Act.put, xqA, xqB, xqC, xqD, xqE, xqF]
   refine y00 (i := 11) rfl (by kernel_rfl) (fun _ _ _ h => h) (Or.inl ⟨by rfl, by intro w hSw; obtain ⟨s0, s1⟩ := hSw; go_simp; try with_reducible rfl⟩) HSW.out ?_
   simp only [Act.put, xqA, xqB, xqC, xqD, xqE, xqF]
   refine y03 (i := 12) (by kernel_rfl) rfl (fun K hK => ?_)
   try rw [if_pos (by rfl)]
   go_simp
   refine ((HQ.out.quiet HK0d.out).acts 0 (by omega) HD.out.2.1.1 HD.out.2.1.2.2.1).mono ?_
   rintro e w8a ⟨sv, rfl, hpend⟩
   obtain ⟨AS, cS, rfl⟩ := hpend.form
   have HPD := xhd hpend
   have HSA := xhd (And.intro (show w8a.cell? ⟨g, j, none⟩ = some (.slice AO 0 cO) from by have := hpend.pair.other; rwa [← HJ.out] at this) hpend.pair.neg)
   clear hpend
   refine hK.out _ _ (fun _ => HSA.out) ?_
   clear hK K
   try simp only [Act.put, xqA, Nat.reduceAdd, xqB, xqC, xqD, xqE, xqF]
   refine y00 (i := 13) rfl (by kernel_rfl) (fun _ _ _ h => h) (Or.inl ⟨by rfl, by intro w hSw; obtain ⟨s0, s1⟩ := hSw; go_simp; try with_reducible rfl⟩) HSA.out ?_
   simp only [Act.put, xqA, xqB, xqC, xqD, xqE, xqF]
   refine y00 (i := 14) rfl (by kernel_rfl) (fun _ _ _ h => h) (Or.inl ⟨by rfl, by intro w hSw; obtain ⟨s0, s1⟩ := hSw; go_simp; try with_reducible rfl⟩) HSA.out ?_
   simp only [Act.put, xqA, xqB, xqC, xqD, xqE, xqF]
   refine y03 (i := 15) (by kernel_rfl) rfl (fun K hK => ?_)
   rw [if_pos (by rfl)]
   obtain ⟨Fo, G, xs, ys, hwo, hsr, h1c, hlen, hput⟩ := HPD.out.put (by simp)
   refine y0u (.tmp 53) (.tmp 60) rfl rfl rfl hwo hsr h1c hlen ?_
   intro v8 w8b hwin hkc
   obtain ⟨cc, ff, mm, hPc⟩ := hput v8 w8b hwin hkc
   rw [← HJ.out] at cc ff hPc
   obtain ⟨A8, k8, hv8, _⟩ := hwin.form
   subst hv8
   have HPC := xhd hPc
   have HSB := xhd (And.intro cc mm)
   clear hPc hput hwin hkc hwo hsr h1c mm HPD
   refine hK.out _ _ (fun _ => HSB.out) ?_
   clear hK K
   try simp only [Act.put, xqA, xqB, xqC, xqD, xqE, xqF]
   refine y00 (i := 16) rfl (by kernel_rfl) (fun _ _ _ h => h) (Or.inl ⟨by rfl, by intro w hSw; obtain ⟨s0, s1⟩ := hSw; go_simp; try with_reducible rfl⟩) HSB.out ?_
   simp only [Act.put, xqA, xqB, xqC, xqD, xqE, xqF]
   refine y03 (i := 17) (by kernel_rfl) rfl (fun K hK => ?_)
   go_simp
   refine hK.out _ _ (fun h => absurd rfl h) ?_
   clear hK K
   refine y09 (by kernel_rfl) ?_ _
   have HQ2 := xhd (show y0g w (w8b.setCell ⟨g, j, none⟩ (.slice A8 ([] ++ o1.said.send).length k8)) g mb k Vm (.slice A8 ([] ++ o1.said.send).length k8) lm ([] ++ o1.said.send) hx ox Z1 Mo by rw [List.length_append]; exact HPC.out)
   rw [List.nil_append] at HQ2
   obtain ⟨L8, hL8⟩ : ∃ L, L = o1.said.send.length := ⟨_, rfl⟩
   have HL8 := xhd hL8
   generalize hV8 : Value.slice A8 _ k8 = V8 at HQ2 ⊢
   generalize w8b.setCell ⟨g, j, none⟩ V8 = w8 at HQ2 ⊢
   clear HPC HSA HSB HQ cc ff co cm hV8 hL8 L8 HL8 HKZ0 HK0d HSW
   obtain ⟨AP, cP, hP8⟩ := HQ2.out.swap.form
   have co : w8.cell? ⟨g, j, none⟩ = some V8 := by rw [HJ.out]; exact HQ2.out.other
   have cm := HQ2.out.neg
   obtain ⟨L8, hL8⟩ : ∃ L, L = o1.said.send.length := ⟨_, rfl⟩
   rw [hP8] at co HQ2 ⊢
   have HKZ0 := xhd (Keeps.refl y01 w8)
   have d0 : decide ((k : Int) < 2) = true := decide_eq_true k1
   go_wp2_with fail
   refine y0b (fun w' => w'.cell? ⟨g, j, none⟩ = some (.slice AP o1.said.send.length cP) ∧ w'.cell? ⟨mb, k, none⟩ = some (.pointer (some ⟨hx.l, 0, none⟩))) 17 18 rfl (by kernel_rfl) ⟨co, cm⟩ (fun hHeld => ?_)
   have HSW := hHeld
   clear hHeld
   have HK0d := xhd (HKZ0.out.drew)
   refine y00 (i := 0) rfl (by kernel_rfl) (fun _ _ _ h => h) (Or.inl ⟨by rfl, by intro w hSw; obtain ⟨s0, s1⟩ := hSw; go_simp; try with_reducible rfl⟩) HSW.out ?_
   simp only [Act.put, xqA, xqB, xqD, xqE, xqF]
   refine y00 (i := 1) rfl (by kernel_rfl) (fun _ _ _ h => h) (Or.inl ⟨by rfl, by intro w hSw; obtain ⟨s0, s1⟩ := hSw; go_simp; try with_reducible rfl⟩) HSW.out ?_
   simp only [Act.put, xqA, xqB, xqC, xqD, xqE, xqF]
   refine y00 (i := 2) rfl (by kernel_rfl) (fun _ _ _ h => h) (Or.inl ⟨by rfl, by intro w hSw; obtain ⟨s0, s1⟩ := hSw; go_simp; try with_reducible rfl⟩) HSW.out ?_
   simp only [Act.put, xqA, xqB, xqC, xqD, xqE, xqF]
   refine y00 (i := 3) rfl (by kernel_rfl) (fun _ _ _ h => h) (Or.inl ⟨by rfl, by intro w hSw; obtain ⟨s0, s1⟩ := hSw; go_simp; try with_reducible rfl⟩) HSW.out ?_
   simp only [Act.put, xqA, xqB, xqC, xqD, xqE, xqF]
   refine y00 (i := 4) rfl (by kernel_rfl) (fun _ _ _ h => h) (Or.inl ⟨by rfl, by intro w hSw; obtain ⟨s0, s1⟩ := hSw; go_simp; try with_reducible rfl⟩) HSW.out ?_
   simp only [Act.put, xqA, xqB, xqC, xqD, xqE, xqF]
   refine y00 (i := 5) rfl (by kernel_rfl) (fun _ _ _ h => h) (Or.inl ⟨by rfl, by intro w hSw; obtain ⟨s0, s1⟩ := hSw; go_simp; try with_reducible rfl⟩) HSW.out ?_
   simp only [Act.put, xqA, xqB, xqC, xqD, xqE, xqF]
   refine y00 (i := 6) rfl (by kernel_rfl) (fun _ _ _ h => h) (Or.inl ⟨by rfl, by intro w hSw; obtain ⟨s0, s1⟩ := hSw; go_simp; try with_reducible rfl⟩) HSW.out ?_
   simp only [Act.put, xqA, xqB, xqC, xqD, xqE, xqF]
   refine y00 (i := 7) rfl (by kernel_rfl) (fun _ _ _ h => h) (Or.inl ⟨by rfl, by intro w hSw; obtain ⟨s0, s1⟩ := hSw; go_simp; try with_reducible rfl⟩) HSW.out ?_
   simp only [Act.put, xqA, xqB, xqC, xqD, xqE, xqF]
   refine y00 (i := 8) rfl (by kernel_rfl) (fun _ _ _ h => h) (Or.inl ⟨by rfl, by intro w hSw; obtain ⟨s0, s1⟩ := hSw; go_simp; try with_reducible rfl⟩) HSW.out ?_
   simp only [Act.put, xqA, xqB, xqC, xqD, xqE, xqF]
   refine y00 (i := 9) rfl (by kernel_rfl) (fun _ _ _ h => h) (Or.inl ⟨by rfl, by intro w hSw; obtain ⟨s0, s1⟩ := hSw; go_simp; try with_reducible rfl⟩) HSW.out ?_
   simp only [Act.put, xqA, xqB, xqC, xqD, xqE, xqF]
   refine y00 (i := 10) rfl (by kernel_rfl) (fun _ _ _ h => h) (Or.inl ⟨by rfl, by intro w hSw; obtain ⟨s0, s1⟩ := hSw; go_simp; try with_reducible rfl⟩) HSW.out ?_
   simp only [Act.put, xqA, xqB, xqC, xqD, xqE, xqF]
   refine y00 (i := 11) rfl (by kernel_rfl) (fun _ _ _ h => h) (Or.inl ⟨by rfl, by intro w hSw; obtain ⟨s0, s1⟩ := hSw; go_simp; try with_reducible rfl⟩) HSW.out ?_
   simp only [Act.put, xqA, xqB, xqC, xqD, xqE, xqF]
   refine y03 (i := 12) (by kernel_rfl) rfl (fun K hK => ?_)
   try rw [if_pos (by rfl)]
   go_simp
   refine ((HQ2.out.quiet HK0d.out).acts 2 (by omega) HD.out.2.1.2.1 HD.out.2.1.2.2.2.1).mono ?_
   rintro e w9a ⟨sv, rfl, hpend⟩
   obtain ⟨AS, cS, rfl⟩ := hpend.form
   have HPD := xhd hpend
   have HSA := xhd (And.intro (show w9a.cell? ⟨g, j, none⟩ = some (.slice AP o1.said.send.length cP) from by have := hpend.pair.other; rwa [← HJ.out] at this) hpend.pair.neg)
   clear hpend
   refine hK.out _ _ (fun _ => HSA.out) ?_
   clear hK K
   try simp only [Act.put, xqA, Nat.reduceAdd, xqB, xqC, xqD, xqE, xqF]
   refine y00 (i := 13) rfl (by kernel_rfl) (fun _ _ _ h => h) (Or.inl ⟨by rfl, by intro w hSw; obtain ⟨s0, s1⟩ := hSw; go_simp; try with_reducible rfl⟩) HSA.out ?_
   simp only [Act.put, xqA, xqB, xqC, xqD, xqE, xqF]
   refine y00 (i := 14) rfl (by kernel_rfl) (fun _ _ _ h => h) (Or.inl ⟨by rfl, by intro w hSw; obtain ⟨s0, s1⟩ := hSw; go_simp; try with_reducible rfl⟩) HSA.out ?_
   simp only [Act.put, xqA, xqB, xqC, xqD, xqE, xqF]
   refine y03 (i := 15) (by kernel_rfl) rfl (fun K hK => ?_)
   rw [if_pos (by rfl)]
   obtain ⟨Fo, G, xs, ys, hwo, hsr, h1c, hlen, hput⟩ := HPD.out.put (by have := HD.out.2.1.2.2.2.2.2; omega)
   refine y0u (.tmp 70) (.tmp 77) rfl rfl rfl hwo hsr h1c hlen ?_
   intro v9 w9b hwin hkc
   obtain ⟨cc, ff, mm, hPc⟩ := hput v9 w9b hwin hkc
   rw [← HJ.out] at cc ff hPc
   obtain ⟨A9, k9, hv8, _⟩ := hwin.form
   subst hv8
   have HPC := xhd hPc
   have HSB := xhd (And.intro cc mm)
   clear hPc hput hwin hkc hwo hsr h1c mm HPD
   refine hK.out _ _ (fun _ => HSB.out) ?_
   clear hK K
   try simp only [Act.put, xqA, xqB, xqC, xqD, xqE, xqF]
   refine y00 (i := 16) rfl (by kernel_rfl) (fun _ _ _ h => h) (Or.inl ⟨by rfl, by intro w hSw; obtain ⟨s0, s1⟩ := hSw; go_simp; try with_reducible rfl⟩) HSB.out ?_
   simp only [Act.put, xqA, xqB, xqC, xqD, xqE, xqF]
   refine y03 (i := 17) (by kernel_rfl) rfl (fun K hK => ?_)
   go_simp
   refine hK.out _ _ (fun h => absurd rfl h) ?_
   clear hK K
   refine y09 (by kernel_rfl) ?_ _
   have HP9 := xhd (show ∃ V0 V1, y0g w (w9b.setCell ⟨g, j, none⟩ (.slice A9 (o1.said.send.length + o2.said.send.length) k9)) g mb 0 V0 V1 (if k + 1 = 2 then sy else []) (if 1 ≤ k + 1 then sx else []) gx gy (if 1 ≤ k + 1 then X2 else XX) (if k + 1 = 2 then Y2 else YY) from HD.out.2.2 _ _ (by rw [HD.out.2.1.2.2.2.2.1]; exact HPC.out))
   generalize w9b.setCell ⟨g, j, none⟩ (.slice A9 (o1.said.send.length + o2.said.send.length) k9) = w9 at HP9 ⊢
   clear HPC HSA HSB HQ2 cc ff co cm HKZ0 HK0d HSW
   go_wp2_with fail
   go_roundw
   case rel => exact ⟨k + 1, by omega, by go_num, HP9.out⟩
   case measure => simp [intOf]; omega
  ·have hkk : k = 2 := by omega
   subst hkk
   have HT0 := xhd (show LSit P w wr g mb 0 gx gy from ⟨V0, V1, sy, sx, X2, Y2, HP.out, HQ0.out⟩)
   clear HP hk hk2 HA HQ0
   go_wp2_with fail
   go_loopw [13] (fun i wr2 => ∃ k : Nat, i = .int .i64 (k : Int) ∧ LSit P w wr2 g mb k gx gy) (fun i _ => 80 - (intOf i).toNat)
   case atStart => exact ⟨0, rfl, HT0.out⟩
   case round =>
    obtain ⟨k, rfl, hS⟩ := hrel
    have HS := xhd hS
    obtain ⟨V0, V1, q0, q1, X, Y, hP, hPP⟩ := hS
    obtain ⟨A0, z0, hf0⟩ := hP.form
    obtain ⟨A1, z1, hf1⟩ := hP.swap.form
    have c0 := hP.mine
    have c1 : wr.cell? ⟨g, 1, none⟩ = some V1 := hP.other
    rw [hf0] at c0
    rw [hf1] at c1
    obtain ⟨⟨l0, l1⟩, _⟩ := HT.out.qs hPP
    have HP := xhd hP
    have HPP := xhd hPP
    obtain ⟨n0, hn0⟩ : ∃ n, n = q0.length := ⟨_, rfl⟩
    obtain ⟨n1, hn1⟩ : ∃ n, n = q1.length := ⟨_, rfl⟩
    rw [← hn0] at c0 l0
    rw [← hn1] at c1 l1
    obtain ⟨N, hN⟩ : ∃ N, N = n0 + n1 := ⟨_, rfl⟩
    have e1 : (n0 : Int) + (n1 : Int) = (N : Int) := by omega
    have lw : wrap64 (N : Int) = (N : Int) := IntWalk.wrap64_in _ (by omega)
    have HN := xhd hN
    have HN0 := xhd hn0
    have HN1 := xhd hn1
    clear hP hPP hN hn0 hn1 hf0 hf1 HT0
    by_cases hz : 0 < N
    ·have HKM := xhd (HT.out.short HPP.out (by rw [← HN0.out, ← HN1.out, ← HN.out]; exact hz))
     have HKN : Hid (k < 80) := xhd (Nat.lt_of_lt_of_le HKM.out (by decide))
     have dk : decide ((k : Int) < 80) = true := decide_eq_true (by have := HKN.out; omega)
     have dz : decide ((0 : Int) < (N : Int)) = true := decide_eq_true (Int.natCast_pos.2 hz)
     have dz2 : decide (0 < N) = true := decide_eq_true hz
     have HS := xhd (show y38 P w wr g mb k gx gy from ⟨V0, V1, q0, q1, X, Y, HP.out, HPP.out, by rw [← HN0.out, ← HN1.out, ← HN.out]; exact hz⟩)
     clear HP HPP HN HN0 HN1 l0 l1 hz
     go_wp2_with fail
     go_quiet (fail)
     clear c0 c1 e1 lw dz dz2 dk
     have HS2 := xhd (HS.out.quiet (Keeps.of_drewN (n := nq) rfl))
     have HB2 := xhd HS2.out.below
     generalize wr.drewN nq = wd at HS2 HB2 ⊢
     clear HS
     have wand : bits .and .i64 (k : Int) 1 = ((k % 2 : Nat) : Int) := by rw [y9h]; rfl
     obtain ⟨pj, hpj⟩ : ∃ q, q = k % 2 := ⟨_, rfl⟩
     rw [← hpj] at wand
     have hp1 : pj ≤ 1 := by omega
     clear hpj
     obtain ⟨Am, nm, zm, cmm, hnm, hpick0, hpick1⟩ := y38.pick HT.out HS2.out hp1
     have HP0 := xhd hpick0
     have HP1 := xhd hpick1
     have i0 : (0 : Int) ≤ (pj : Int) := by omega
     have i1 : (pj : Int) < 2 := by omega
     have HPJ := xhd hp1
     clear hpick0 hpick1 HS2
     go_upto_if 103 with fail
     go_cut [14] from 98 to 137 (fun v wx => wx = wd ∧ ∃ i : Nat, i ≤ 1 ∧ v = .int .i64 (i : Int) ∧ y6h w wd g mb i (fun W => LSit P w W g mb (k + 1) gx gy))
     case first =>
      by_cases hz : nm = 0
      ·have HX0 := xhd (HP0.out hz)
       have dn : ((nm : Int) == 0) = true := by rw [beq_iff_eq, hz]; rfl
       have e1 : (1 : Int) - (pj : Int) = ((1 - pj : Nat) : Int) := by have := HPJ.out; omega
       have e2 : 1 - pj ≤ 1 := by omega
       generalize 1 - pj = j at HX0 e1 e2
       have lw : wrap64 (j : Int) = (j : Int) := IntWalk.wrap64_in _ (by omega)
       clear hz
       go_wp2_with fail
       go_meet
       exact ⟨rfl, j, e2, rfl, HX0.out⟩
      ·have HX1 := xhd (HP1.out hz)
       have dn : ((nm : Int) == 0) = false := by rw [beq_eq_false_iff_ne]; omega
       clear hz
       go_wp2_with fail
       go_meet
       exact ⟨rfl, pj, HPJ.out, rfl, HX1.out⟩
     case rest =>
     clear cmm hnm HP0 HP1 i0 i1 hp1
     obtain ⟨rfl, i, hi, rfl, hN⟩ := hcut
     obtain ⟨Vm, Vo, p, t, lo, hx, ox, Mm, Mo, n', o', hP, htame, hlo, hin, hback⟩ := hN
     obtain ⟨bb, oo, zc, d, hV, hzc, hcell, hpop⟩ := hP.head'
     have cmv := hP.mine
     rw [hV] at cmv
     have x0 : wc.cell? ⟨bb, oo, none⟩ = some (.int .i64 p.code) := hcell 0 _ rfl
     have x1 : wc.cell? ⟨bb, oo + 1, none⟩ = some (.int .i64 p.id) := hcell 1 _ rfl
     have x2 : wc.cell? ⟨bb, oo + 2, none⟩ = some d := hcell 2 _ rfl
     have i0 : (0 : Int) ≤ (i : Int) := by omega
     have i1 : (i : Int) < 2 := by omega
     obtain ⟨T, hT⟩ : ∃ T, T = t.length := ⟨_, rfl⟩
     rw [← hT] at cmv hzc hpop
     have z0 : (0 : Int) < ((T + 1 : Nat) : Int) := by omega
     have z1 : 0 < T + 1 := by omega
     have hslice := y50 (some ⟨bb, oo, none⟩) T zc hzc
     obtain ⟨DA, dl, dc, hd⟩ : ∃ A n c, d = .slice A n c := by
      obtain ⟨_, _, A, c, e, _⟩ := (hpop wc (Keeps.refl _ _)).1
      exact ⟨A, _, c, e⟩
     subst hd
     have HP2 := xhd hP
     have HPOP := xhd hpop
     have HTAME := xhd htame
     have HLO := xhd hlo
     have HIN := xhd hin
     have HBACK := xhd hback
     have HTT := xhd hT
     clear hP hpop htame hlo hin hback hcell hT hzc hV
     obtain ⟨AV, cV, hVV⟩ := y6l (some ⟨bb, oo, none⟩) zc 1 T 3
     rw [hVV] at HPOP hslice
     clear hVV
     obtain ⟨pc, pi, pd⟩ := p
     dsimp only at x0 x1
     go_upto_region 20 with fail
     obtain ⟨gp, hgp⟩ : ∃ q, q = wc.heap.size := ⟨_, rfl⟩
     rw [← hgp]
     generalize hwx : wc.alloc (.cells #[.int .i64 pc, .int .i64 pi, .slice DA dl dc] 56) = wx
     have hkx : Keeps y01 wc wx := by rw [← hwx]; exact (Keeps.refl _ wc).alloc _
     have hbx : Blk wx gp 56 #[.int .i64 pc, .int .i64 pi, .slice DA dl dc] := by rw [← hwx, hgp]; exact Blk.new wc _ _
     have hPx := HP2.out.quiet hkx
     have cmv := y04 cmv hkx
     have fmv := hPx.free i
     obtain ⟨hh, hp2⟩ := HPOP.out wx hkx
     have HH := xhd hh
     have HP3 := xhd hp2
     have hgg : gp ≠ g := by have := hbx.lt; have h2 := y0x (HP2.out.mine); omega
     have HBX := xhd ((hbx.far (p := ⟨g, i, none⟩) hgg (.slice AV T cV)))
     clear hwx hkx hbx hPx hh hp2 hgg x0 x1 x2 HP2 HPOP hgp
     go_upto_region 21 with fail
     clear cmv fmv hslice z0 z1
     generalize wx.setCell ⟨g, i, none⟩ (.slice AV T cV) = w8 at HP3 HH HBX ⊢
     generalize Value.slice AV T cV = VV at HP3 ⊢
     obtain ⟨j, hj⟩ : ∃ j, j = 1 - i := ⟨_, rfl⟩
     have hj1 : j ≤ 1 := by omega
     have j0 : (0 : Int) ≤ (j : Int) := by omega
     have j1 : (j : Int) < 2 := by omega
     have e1 : (1 : Int) - (i : Int) = (j : Int) := by omega
     have lw : wrap64 (j : Int) = (j : Int) := IntWalk.wrap64_in _ (by omega)
     have lw2 : IntKind.i64.wrap (j : Int) = (j : Int) := IntWalk.i64_in _ (by omega)
     have lw3 : IntKind.i64.wrap (i : Int) = (i : Int) := IntWalk.i64_in _ (by omega)
     have HJ := xhd hj
     clear hj
     obtain ⟨AO, cO, hO⟩ := HP3.out.swap.form
     have co : w8.cell? ⟨g, j, none⟩ = some Vo := by rw [HJ.out]; exact HP3.out.other
     have cm := HP3.out.neg
     rw [hO] at co HP3
     clear hO
     have hsent := y3a
     have hlsent := y2p
     have b0 : w8.cell? ⟨gp, 0, none⟩ = some (.int .i64 pc) := by rw [HBX.out.cell]; rfl
     have b1 : w8.cell? ⟨gp, 1, none⟩ = some (.int .i64 pi) := by rw [HBX.out.cell]; rfl
     have b2 : w8.cell? ⟨gp, 2, none⟩ = some (.slice DA dl dc) := by rw [HBX.out.cell]; rfl
     have HKZ0 := xhd (Keeps.refl y01 w8)
     refine y0b (fun w' => w'.cell? ⟨g, j, none⟩ = some (.slice AO lo.length cO) ∧ w'.cell? ⟨mb, i, none⟩ = some (.pointer (some ⟨hx.l, 0, none⟩))) 18 19 rfl (by kernel_rfl) ⟨co, cm⟩ (fun hHeld => ?_)
     have HSW := hHeld
     clear hHeld
     have HK0d := xhd (HKZ0.out.drew)
     refine y00 (i := 0) rfl (by kernel_rfl) (fun _ _ _ h => h) (Or.inl ⟨by rfl, by intro w hSw; obtain ⟨s0, s1⟩ := hSw; go_simp; try with_reducible rfl⟩) HSW.out ?_
     simp only [Act.put, xqA, xqB, xqD, xqE, xqF]
     refine y00 (i := 1) rfl (by kernel_rfl) (fun _ _ _ h => h) (Or.inl ⟨by rfl, by intro w hSw; obtain ⟨s0, s1⟩ := hSw; go_simp; try with_reducible rfl⟩) HSW.out ?_
     simp only [Act.put, xqA, xqB, xqC, xqD, xqE, xqF]
     refine y00 (i := 2) rfl (by kernel_rfl) (fun _ _ _ h => h) (Or.inl ⟨by rfl, by intro w hSw; obtain ⟨s0, s1⟩ := hSw; go_simp; try with_reducible rfl⟩) HSW.out ?_
     simp only [Act.put, xqA, xqB, xqC, xqD, xqE, xqF]
     refine y00 (i := 3) rfl (by kernel_rfl) (fun _ _ _ h => h) (Or.inl ⟨by rfl, by intro w hSw; obtain ⟨s0, s1⟩ := hSw; go_simp; try with_reducible rfl⟩) HSW.out ?_
     simp only [Act.put, xqA, xqB, xqC, xqD, xqE, xqF]
     refine y00 (i := 4) rfl (by kernel_rfl) (fun _ _ _ h => h) (Or.inl ⟨by rfl, by intro w hSw; obtain ⟨s0, s1⟩ := hSw; go_simp; try with_reducible rfl⟩) HSW.out ?_
     simp only [Act.put, xqA, xqB, xqC, xqD, xqE, xqF]
     refine y00 (i := 5) rfl (by kernel_rfl) (fun _ _ _ h => h) (Or.inl ⟨by rfl, by intro w hSw; obtain ⟨s0, s1⟩ := hSw; go_simp; try with_reducible rfl⟩) HSW.out ?_
     simp only [Act.put, xqA, xqB, xqC, xqD, xqE, xqF]
     refine y00 (i := 6) rfl (by kernel_rfl) (fun _ _ _ h => h) (Or.inl ⟨by rfl, by intro w hSw; obtain ⟨s0, s1⟩ := hSw; go_simp; try with_reducible rfl⟩) HSW.out ?_
     simp only [Act.put, xqA, xqB, xqC, xqD, xqE, xqF]
     refine y00 (i := 7) rfl (by kernel_rfl) (fun _ _ _ h => h) (Or.inl ⟨by rfl, by intro w hSw; obtain ⟨s0, s1⟩ := hSw; go_simp; try with_reducible rfl⟩) HSW.out ?_
     simp only [Act.put, xqA, xqB, xqC, xqD, xqE, xqF]
     refine y00 (i := 8) rfl (by kernel_rfl) (fun _ _ _ h => h) (Or.inl ⟨by rfl, by intro w hSw; obtain ⟨s0, s1⟩ := hSw; go_simp; try with_reducible rfl⟩) HSW.out ?_
     simp only [Act.put, xqA, xqB, xqC, xqD, xqE, xqF]
     refine y00 (i := 9) rfl (by kernel_rfl) (fun _ _ _ h => h) (Or.inl ⟨by rfl, by intro w hSw; obtain ⟨s0, s1⟩ := hSw; go_simp; try with_reducible rfl⟩) HSW.out ?_
     simp only [Act.put, xqA, xqB, xqC, xqD, xqE, xqF]
     refine y00 (i := 10) rfl (by kernel_rfl) (fun _ _ _ h => h) (Or.inl ⟨by rfl, by intro w hSw; obtain ⟨s0, s1⟩ := hSw; go_simp; try with_reducible rfl⟩) HSW.out ?_
     simp only [Act.put, xqA, xqB, xqC, xqD, xqE, xqF]
     refine y00 (i := 11) rfl (by kernel_rfl) (fun _ _ _ h => h) (Or.inl ⟨by rfl, by intro w hSw; obtain ⟨s0, s1⟩ := hSw; go_simp; try with_reducible rfl⟩) HSW.out ?_
     simp only [Act.put, xqA, xqB, xqC, xqD, xqE, xqF]
     refine y03 (i := 12) (by kernel_rfl) rfl (fun K hK => ?_)
     try rw [if_pos (by rfl)]
     go_simp
     refine hK.out _ _ (fun _ => HSW.out) ?_
     clear hK K
     try simp only [Act.put, xqA, Nat.reduceAdd, xqB, xqC, xqD, xqE, xqF]
     refine y03 (i := 13) (by kernel_rfl) rfl (fun K hK => ?_)
     try rw [if_pos (by rfl)]
     go_simp
     refine ((HP3.out.quiet HK0d.out).hears (.slice DA dl dc) ⟨pc, pi, pd⟩ ((HH.out.keeps HK0d.out (fun _ _ h => h)).mono (fun b hb => ⟨Nat.lt_of_lt_of_le hb.1 HK0d.out.size, hb.2⟩)) HTAME.out.1 HTAME.out.2.1 HTAME.out.2.2 HIN.out).mono ?_
     rintro e w10a ⟨sv, rfl, hpend⟩
     obtain ⟨AS, cS, rfl⟩ := hpend.form
     have HPD := xhd hpend
     have HSA := xhd (And.intro (show w10a.cell? ⟨g, j, none⟩ = some (.slice AO lo.length cO) from by have := hpend.pair.other; rwa [← HJ.out] at this) hpend.pair.neg)
     clear hpend
     refine hK.out _ _ (fun _ => HSA.out) ?_
     clear hK K
     try simp only [Act.put, xqA, Nat.reduceAdd, xqB, xqC, xqD, xqE, xqF]
     refine y00 (i := 14) rfl (by kernel_rfl) (fun _ _ _ h => h) (Or.inl ⟨by rfl, by intro w hSw; obtain ⟨s0, s1⟩ := hSw; go_simp; try with_reducible rfl⟩) HSA.out ?_
     simp only [Act.put, xqA, xqB, xqC, xqD, xqE, xqF]
     refine y00 (i := 15) rfl (by kernel_rfl) (fun _ _ _ h => h) (Or.inl ⟨by rfl, by intro w hSw; obtain ⟨s0, s1⟩ := hSw; go_simp; try with_reducible rfl⟩) HSA.out ?_
     simp only [Act.put, xqA, xqB, xqC, xqD, xqE, xqF]
     refine y03 (i := 16) (by kernel_rfl) rfl (fun K hK => ?_)
     rw [if_pos (by rfl)]
     obtain ⟨Fo, G, xs, ys, hwo, hsr, h1c, hlen, hput⟩ := HPD.out.put HLO.out
     refine y0u (.tmp 127) (.tmp 135) rfl rfl rfl hwo hsr h1c hlen ?_
     intro v10 w10b hwin hkc
     obtain ⟨cc, ff, mm, hPc⟩ := hput v10 w10b hwin hkc
     rw [← HJ.out] at cc ff hPc
     obtain ⟨A10, k10, hv8, _⟩ := hwin.form
     subst hv8
     have HPC := xhd hPc
     have HSB := xhd (And.intro cc mm)
     clear hPc hput hwin hkc hwo hsr h1c mm HPD
     refine hK.out _ _ (fun _ => HSB.out) ?_
     clear hK K
     try simp only [Act.put, xqA, xqB, xqC, xqD, xqE, xqF]
     refine y00 (i := 17) rfl (by kernel_rfl) (fun _ _ _ h => h) (Or.inl ⟨by rfl, by intro w hSw; obtain ⟨s0, s1⟩ := hSw; go_simp; try with_reducible rfl⟩) HSB.out ?_
     simp only [Act.put, xqA, xqB, xqC, xqD, xqE, xqF]
     refine y03 (i := 18) (by kernel_rfl) rfl (fun K hK => ?_)
     go_simp
     refine hK.out _ _ (fun h => absurd rfl h) ?_
     clear hK K
     refine y09 (by kernel_rfl) ?_ _
     have HS9 := xhd (HBACK.out _ _ _ HPC.out)
     generalize w10b.setCell ⟨g, j, none⟩ (.slice A10 (lo.length + o'.said.send.length) k10) = w9 at HS9 ⊢
     clear HPC HSA HSB HP3 HH HBX HTAME HLO HIN HBACK HTT e1 lw lw2 lw3 j0 j1 i0 i1 HJ co cm cc ff HKZ0 HK0d HSW b0 b1 b2
     have hk3 := HKN.out
     go_wp2_with fail
     go_roundw
     case rel => exact ⟨k + 1, (Int.natCast_succ k).symm, HS9.out⟩
     case measure => exact y2x HKN.out
    ·have dz : decide ((0 : Int) < (N : Int)) = false := decide_eq_false (fun h => hz (Int.natCast_pos.1 h))
     have dz2 : decide (0 < N) = false := decide_eq_false hz
     have hz0 : n0 + n1 = 0 := by rw [← HN.out]; exact Nat.eq_zero_of_not_pos hz
     have hq0 : q0 = [] := List.eq_nil_of_length_eq_zero (by rw [← HN0.out]; exact (Nat.add_eq_zero_iff.1 hz0).1)
     have hq1 : q1 = [] := List.eq_nil_of_length_eq_zero (by rw [← HN1.out]; exact (Nat.add_eq_zero_iff.1 hz0).2)
     have HKM := xhd (Nat.le_trans (HT.out.most HPP.out) (show 8 ≤ 80 - 1 by decide))
     have HEND := xhd (HE.out k X Y (by have h := HPP.out; rw [hq0, hq1] at h; exact h))
     have HPE := xhd (fun n => HP.out.quiet (Keeps.of_drewN (n := n) rfl))
     clear hz0 hq0 hq1 HP HPP HE HN HN0 HN1 hz HS
     have dk : decide ((k : Int) < 80) = true := decide_eq_true (by have := HKM.out; omega)
     clear HKM
     go_wp2_with fail
     go_quiet (fail)
     clear c0 c1 e1 lw dz dz2 dk l0 l1
     have HPF := xhd (HPE.out nq)
     generalize wr.drewN nq = wd at HPF ⊢
     clear HPE
     obtain ⟨e1, e2⟩ := HEND.out
     subst e1 e2
     have HSX := xhd (show Calls Tryz.prog 40 #[.pointer (some ⟨gx.l, 0, none⟩)] wd fun e w' => e = .returned (.int .i64 9) ∧ wd = w' from HPF.out.state)
     have HSY := xhd (show Calls Tryz.prog 40 #[.pointer (some ⟨gy.l, 0, none⟩)] wd fun e w' => e = .returned (.int .i64 9) ∧ wd = w' from HPF.out.swap.state)
     have HTWO := xhd HPF.out.two
     clear HPF HEND
     go_wp2_with fail
     refine HSX.out.mono ?_
     rintro e w' ⟨rfl, rfl⟩
     go_wp2_with fail
     refine HSY.out.mono ?_
     rintro e w' ⟨rfl, rfl⟩
     go_wp2_with fail
     go_ret2
     exact ⟨gx, gy, a, b, rfl, HTWO.out, HAA.out, HBB.out⟩
end Go.Proofs.YtmgicbckgpdkcaaGreatDoor
